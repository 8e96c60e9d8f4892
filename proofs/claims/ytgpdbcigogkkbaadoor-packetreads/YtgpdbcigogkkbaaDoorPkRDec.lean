/- The document's Decode. -/
import Derived.Test.YtgpdbcigogkkbaaDoorPkAlive
import Derived.Test.YtgpdbcigogkkbaaDoorPkRef2
import Derived.Test.YtgpdbcigogkkbaaDoorRefParse
namespace Go.Proofs.YtgpdbcigogkkbaaDoor
open Go.RowKit
open Slot

theorem range_alloc {w : World} {b o : Nat} {cs : List Value} (h : w.rangeAt b o cs) (hb : b < w.heap.size) (x : Obj) : (w.alloc x).rangeAt b o cs := fun j v hv => by
  rw [World.cell?_of_block (w := w) (heap_alloc_old w x hb)]
  exact h j v hv
theorem ret_raw2 {fn : Func} {p q : Tmp} (h : fn.results = #[.cell p 26, .tmp q]) {tmps : Array Value} {w : World} {b : Nat} {C : Array Value} {v : Value} (hp : tmps.getD p undef = .pointer (some ⟨b, 0, none⟩)) (hq : tmps.getD q undef = v) (hB : At w b C) (hr : Rw C) :
    (results fn tmps).run Tryd.prog w = .ok (.tuple #[.agg C, v]) w := by
  have hp' : tmps[p]?.getD undef = .pointer (some ⟨b, 0, none⟩) := by simpa using hp
  have hq' : tmps[q]?.getD undef = v := by simpa using hq
  simp [results, h, hp', hq', asAddr, run_loadVar_row w b 26 26 C (0, 0) _ hB Tryd.underlying26 rfl hr.info]
set_option maxHeartbeats 2000000 in
set_option maxRecDepth 100000 in
theorem rdec_short (S : ByteArray) (w : World) (hs : S.size < 23) : Calls Tryd.prog 15 #[.string S] w fun e w' => e = .returned (.tuple #[.agg (pkCells zeroP), .int .i64 140]) ∧ Below w.heap.size w w' := by
  have hz := zeroPk
  have HP := hid (pbox_new w zeroP)
  have HW := hid (below_alloc w (.cells (pkCells zeroP) 26))
  have hl : (S.size : Int) < 23 := by omega
  go_enter Tryd.func15, Tryd.ntmps15
  go_wp2_with (refine wpList_store_row rfl 26 _ _ rfl w.heap.size (pkCells zeroP) rfl rfl 26 _ HP.out (infoPk _) (sizesPk _ _) (onePk _) ?_)
  exact bodyPost_ret (v := .tuple #[.agg (pkCells zeroP), .int .i64 140]) (ret_pk2 rfl rfl rfl (pbox_set HP.out)) rfl ⟨rfl, below_setRow HW.out (Nat.le_refl _) _⟩
set_option maxHeartbeats 8000000 in
set_option maxRecDepth 100000 in
theorem rdec_core (S : ByteArray) (s : Bs) (hSs : S = ⟨s.toArray⟩) (x0 x1 x2 ne nc : Nat) (E C M D : Bs) (CX CZ PC Z0 DC : Array Value) (z F DE : Int) (w : World) (h23 : 23 ≤ S.size) (hS : S.size ≤ 20002)
    (hz : Tryd.zeroCells26 = Z0) (hzb : Tryd.zeroCells24 = CZ) (rz : Rw Z0) (rp : Rw PC) (hcx : CX.size = 256) (hcz : CZ.size = 256) (ox : CX.all (·.oneCell') = true)
    (hbu : Array.foldl (fun cs (x : Value × Nat) => cs.setIfInBounds (5 + x.snd) x.fst)
          (((((Z0.setIfInBounds 0 (Value.int IntKind.i64 x0)).setIfInBounds 1 (Value.int IntKind.i64 x1)).setIfInBounds 2 (Value.int IntKind.i64 x2)).setIfInBounds 3 (Value.int IntKind.u64 ne)).setIfInBounds 4 (Value.int IntKind.u64 nc))
          CX.zipIdx 0 256 = PC)
    (i0 : ∀ w, (Instr.index 9 (.string S) (.int .i64 0)).run Tryd.prog w = .ok (.int .u8 x0) w) (i1 : ∀ w, (Instr.index 9 (.string S) (.int .i64 1)).run Tryd.prog w = .ok (.int .u8 x1) w) (i2 : ∀ w, (Instr.index 9 (.string S) (.int .i64 2)).run Tryd.prog w = .ok (.int .u8 x2) w)
    (s0 : ∀ w, (Instr.slice 9 (.string S) (some (.int .i64 3)) (some (.int .i64 11)) none).run Tryd.prog w = .ok (.string ⟨E.toArray⟩) w) (s1 : ∀ w, (Instr.slice 9 (.string S) (some (.int .i64 11)) (some (.int .i64 19)) none).run Tryd.prog w = .ok (.string ⟨C.toArray⟩) w)
    (s2 : ∀ w, (Instr.slice 9 (.string S) (some (.int .i64 21)) (some (.int .i64 ((S.size : Int) - 2))) none).run Tryd.prog w = .ok (.string ⟨M.toArray⟩) w) (b0 : x0 < 256) (b1 : x1 < 256) (b2 : x2 < 256)
    (hPar : ∀ w, Calls Tryd.prog 26 #[.string ⟨M.toArray⟩] w fun e w' => e = .returned (.tuple #[.agg CX, .int .i64 z]) ∧ Below w.heap.size w w')
    (hNE : ∀ w, Calls Tryd.prog 27 #[.string ⟨E.toArray⟩] w fun e w' => e = .returned (.int .u64 (ne : Int)) ∧ w' = w)
    (hNC : ∀ w, Calls Tryd.prog 27 #[.string ⟨C.toArray⟩] w fun e w' => e = .returned (.int .u64 (nc : Int)) ∧ w' = w)
    (hEn : ∀ w, Calls Tryd.prog 10 #[.agg PC] w fun e w' => e = .returned (.tuple #[.string ⟨D.toArray⟩, .int .i64 F]) ∧ Below w.heap.size w w')
    (hNo : ¬ (z = 0 ∧ F = 0 ∧ D = s) → DC = Z0 ∧ DE = 140) (hYes : z = 0 → F = 0 → D = s → DC = PC ∧ DE = 0) :
    Calls Tryd.prog 15 #[.string S] w fun e w' => e = .returned (.tuple #[.agg DC, .int .i64 DE]) ∧ Below w.heap.size w w' := by
  have HZ0 := hid (At.new w Z0)
  have HW0 := hid (below_alloc w (.cells Z0 26))
  have HPar := hid hPar
  have HNE := hid hNE
  have HNC := hid hNC
  have HEn := hid hEn
  have HNo := hid hNo
  have HSs := hid hSs
  have HYes := hid hYes
  have RZ := hid rz
  have RP := hid rp
  have hzs := rz.1
  have hze : ¬ Z0 = #[] := fun e => by rw [e] at hzs; cases hzs
  have HCZ : Hid (CZ.size = CX.size) := hcz.trans hcx.symm
  have HOX := hid ox
  have hib : (Tryd.prog.info? 24).map (·.size) = some CX.size := by rw [hcx]; kernel_rfl
  have hi24 : (Tryd.prog.info? 24).map (·.size) = some CX.toList.length := by rw [Array.length_toList]; exact hib
  have HIB := hid hib
  have u24 := Tryd.underlying24
  have hl : ¬ (S.size : Int) < 23 := by omega
  have hlz : (S.size : Int) ≤ 20002 := by omega
  have hlw : IntKind.i64.wrap ((S.size : Int) - 2) = (S.size : Int) - 2 := by rw [IntKind.wrap_i64]; omega
  have v0 : IntKind.i64.wrap (x0 : Int) = x0 := by rw [IntKind.wrap_i64]; omega
  have v1 : IntKind.i64.wrap (x1 : Int) = x1 := by rw [IntKind.wrap_i64]; omega
  have v2 : IntKind.i64.wrap (x2 : Int) = x2 := by rw [IntKind.wrap_i64]; omega
  clear hPar hNE hNC hEn hNo hYes rz rp ox hcz hSs
  go_enter Tryd.func15, Tryd.ntmps15
  go_wp2_with fail
  refine (HPar.out _).mono ?_; rintro e w1 ⟨rfl, hb⟩
  have HP1 := hid (HZ0.out.below hb HZ0.out.lt)
  have HW1 := hid (HW0.out.trans (hb.mono HW0.out.size))
  have HB1 : Hid ((w1.alloc (.cells CZ 24)).heap[w1.heap.size]? = some (.cells CZ 24 (0, 0))) := heap_alloc_new w1 _
  clear hb HZ0 HW0 HPar
  go_wp2_with (refine wpList_store_row rfl 24 _ _ rfl w1.heap.size CX rfl rfl 24 _ HB1.out HIB.out HCZ.out HOX.out (Hid.out ?_))
  have B2 : Hid (((w1.alloc (.cells CZ 24)).setRow w1.heap.size CX).heap[w1.heap.size]? = some (.cells CX 24 (0, 0))) := setRow_heap _ _ _ _ _ _ HB1.out
  have W2 : Hid (Below w.heap.size w ((w1.alloc (.cells CZ 24)).setRow w1.heap.size CX)) := below_setRow (HW1.out.alloc HW1.out.size _) HW1.out.size _
  have P2 : Hid (At ((w1.alloc (.cells CZ 24)).setRow w1.heap.size CX) w.heap.size Z0) := (HP1.out.old _).other (by have := HP1.out.lt; omega)
  generalize (w1.alloc (.cells CZ 24)).setRow w1.heap.size CX = w2 at B2 W2 P2 ⊢
  generalize w1.heap.size = b at B2 ⊢
  refine hid ?_
  clear HP1 HW1 HB1 s2 hzb
  have hblt : b < w2.heap.size := (Array.getElem?_eq_some_iff.1 B2.out).1
  have hr : w2.drew.rangeAt b 0 CX.toList := fun j v hv => by
    have : w2.drew.heap[b]? = some (.cells CX 24 (0, 0)) := B2.out
    rw [cell_of_row w2.drew b _ _ _ _ this, Nat.zero_add, ← Array.getElem?_toList]; exact hv
  have ha : ((w2.alloc (.cells Z0 26)).drew).rangeAt b 0 CX.toList := range_alloc hr hblt _
  have HG : Hid (At ((w2.alloc (.cells Z0 26)).drew) w2.heap.size Z0) := At.new w2.drew Z0
  have hf : (((w2.alloc (.cells Z0 26)).drew).setRow w2.heap.size PC).rangeAt b 0 CX.toList := range_setRow ha (by omega) _
  have B3 : Hid (At (((w2.alloc (.cells Z0 26)).drew).setRow w2.heap.size PC) w2.heap.size PC) := HG.out.set
  have W3 : Hid (Below w.heap.size w (((w2.alloc (.cells Z0 26)).drew).setRow w2.heap.size PC)) := below_setRow (W2.out.drew.alloc W2.out.size _) W2.out.size _
  have P3 : Hid (At (((w2.alloc (.cells Z0 26)).drew).setRow w2.heap.size PC) w.heap.size Z0) := by
    have h : At w2.drew w.heap.size Z0 := P2.out
    exact (h.old _).other (by have := P2.out.lt; omega)
  go_wp2_with fail
  refine wp_region_noPanic ?_
  refine wp_region_held_drew (S := fun w' => w'.rangeAt b 0 CX.toList) (by kernel_rfl) hr (fun hHeld => ?_)
  refine wpAnyH_take (i := 0) (oi := { dst := some 22, op := Op.move (Operand.tmp 0), type := 9, pos := "ref.go:64", after := #[], guard := none }) (v := .string S) rfl (by kernel_rfl) (by kernel_rfl) (by kernel_rfl) (fun _ _ _ h => h) (Or.inl ⟨by rfl, fun w hSw => ?_⟩) (by assumption) ?_
  · clear hHeld hSw
    go_simp
  try simp only [Act.put, List.setIfInBounds_toArray, List.set_cons_zero, List.set_cons_succ]
  refine wpAnyH_take (i := 1) (oi := { dst := some 23, op := Op.index 9 (Operand.tmp 22) (Operand.const (Value.int IntKind.i64 0)), type := 5, pos := "ref.go:64", after := #[{ on := 0, ground := Ground.data }], guard := none }) (v := .int .u8 x0) rfl (by kernel_rfl) (by kernel_rfl) (by kernel_rfl) (fun _ _ _ h => h) (Or.inl ⟨by rfl, fun w hSw => ?_⟩) (by assumption) ?_
  · clear hHeld hSw
    go_simp
  try simp only [Act.put, List.setIfInBounds_toArray, List.set_cons_zero, List.set_cons_succ]
  refine wpAnyH_take (i := 2) (oi := { dst := some 24, op := Op.convert 5 3 (Operand.tmp 23), type := 3, pos := "ref.go:64", after := #[{ on := 1, ground := Ground.data }], guard := none }) (v := .int .i64 x0) rfl (by kernel_rfl) (by kernel_rfl) (by kernel_rfl) (fun _ _ _ h => h) (Or.inl ⟨by rfl, fun w hSw => ?_⟩) (by assumption) ?_
  · clear hHeld hSw
    go_simp
  try simp only [Act.put, List.setIfInBounds_toArray, List.set_cons_zero, List.set_cons_succ]
  refine wpAnyH_take (i := 3) (oi := { dst := some 25, op := Op.move (Operand.tmp 0), type := 9, pos := "ref.go:64", after := #[], guard := none }) (v := .string S) rfl (by kernel_rfl) (by kernel_rfl) (by kernel_rfl) (fun _ _ _ h => h) (Or.inl ⟨by rfl, fun w hSw => ?_⟩) (by assumption) ?_
  · clear hHeld hSw
    go_simp
  try simp only [Act.put, List.setIfInBounds_toArray, List.set_cons_zero, List.set_cons_succ]
  refine wpAnyH_take (i := 4) (oi := { dst := some 26, op := Op.index 9 (Operand.tmp 25) (Operand.const (Value.int IntKind.i64 1)), type := 5, pos := "ref.go:64", after := #[{ on := 3, ground := Ground.data }], guard := none }) (v := .int .u8 x1) rfl (by kernel_rfl) (by kernel_rfl) (by kernel_rfl) (fun _ _ _ h => h) (Or.inl ⟨by rfl, fun w hSw => ?_⟩) (by assumption) ?_
  · clear hHeld hSw
    go_simp
  try simp only [Act.put, List.setIfInBounds_toArray, List.set_cons_zero, List.set_cons_succ]
  refine wpAnyH_take (i := 5) (oi := { dst := some 27, op := Op.convert 5 3 (Operand.tmp 26), type := 3, pos := "ref.go:64", after := #[{ on := 4, ground := Ground.data }], guard := none }) (v := .int .i64 x1) rfl (by kernel_rfl) (by kernel_rfl) (by kernel_rfl) (fun _ _ _ h => h) (Or.inl ⟨by rfl, fun w hSw => ?_⟩) (by assumption) ?_
  · clear hHeld hSw
    go_simp
  try simp only [Act.put, List.setIfInBounds_toArray, List.set_cons_zero, List.set_cons_succ]
  refine wpAnyH_take (i := 6) (oi := { dst := some 28, op := Op.move (Operand.tmp 0), type := 9, pos := "ref.go:64", after := #[], guard := none }) (v := .string S) rfl (by kernel_rfl) (by kernel_rfl) (by kernel_rfl) (fun _ _ _ h => h) (Or.inl ⟨by rfl, fun w hSw => ?_⟩) (by assumption) ?_
  · clear hHeld hSw
    go_simp
  try simp only [Act.put, List.setIfInBounds_toArray, List.set_cons_zero, List.set_cons_succ]
  refine wpAnyH_take (i := 7) (oi := { dst := some 29, op := Op.index 9 (Operand.tmp 28) (Operand.const (Value.int IntKind.i64 2)), type := 5, pos := "ref.go:64", after := #[{ on := 6, ground := Ground.data }], guard := none }) (v := .int .u8 x2) rfl (by kernel_rfl) (by kernel_rfl) (by kernel_rfl) (fun _ _ _ h => h) (Or.inl ⟨by rfl, fun w hSw => ?_⟩) (by assumption) ?_
  · clear hHeld hSw
    go_simp
  try simp only [Act.put, List.setIfInBounds_toArray, List.set_cons_zero, List.set_cons_succ]
  refine wpAnyH_take (i := 8) (oi := { dst := some 30, op := Op.convert 5 3 (Operand.tmp 29), type := 3, pos := "ref.go:64", after := #[{ on := 7, ground := Ground.data }], guard := none }) (v := .int .i64 x2) rfl (by kernel_rfl) (by kernel_rfl) (by kernel_rfl) (fun _ _ _ h => h) (Or.inl ⟨by rfl, fun w hSw => ?_⟩) (by assumption) ?_
  · clear hHeld hSw
    go_simp
  try simp only [Act.put, List.setIfInBounds_toArray, List.set_cons_zero, List.set_cons_succ]
  refine wpAnyH_take (i := 9) (oi := { dst := some 31, op := Op.move (Operand.tmp 0), type := 9, pos := "ref.go:64", after := #[], guard := none }) (v := .string S) rfl (by kernel_rfl) (by kernel_rfl) (by kernel_rfl) (fun _ _ _ h => h) (Or.inl ⟨by rfl, fun w hSw => ?_⟩) (by assumption) ?_
  · clear hHeld hSw
    go_simp
  try simp only [Act.put, List.setIfInBounds_toArray, List.set_cons_zero, List.set_cons_succ]
  refine wpAnyH_take (i := 10) (oi := { dst := some 32, op := Op.slice 9 (Operand.tmp 31) (some (Operand.const (Value.int IntKind.i64 3))) (some (Operand.const (Value.int IntKind.i64 11))) none, type := 9, pos := "ref.go:64", after := #[{ on := 9, ground := Ground.data }], guard := none }) (v := .string ⟨E.toArray⟩) rfl (by kernel_rfl) (by kernel_rfl) (by kernel_rfl) (fun _ _ _ h => h) (Or.inl ⟨by rfl, fun w hSw => ?_⟩) (by assumption) ?_
  · clear hHeld hSw
    go_simp
  try simp only [Act.put, List.setIfInBounds_toArray, List.set_cons_zero, List.set_cons_succ]
  refine wpAnyH_take (i := 12) (oi := { dst := some 34, op := Op.move (Operand.tmp 0), type := 9, pos := "ref.go:64", after := #[], guard := none }) (v := .string S) rfl (by kernel_rfl) (by kernel_rfl) (by kernel_rfl) (fun _ _ _ h => h) (Or.inl ⟨by rfl, fun w hSw => ?_⟩) (by assumption) ?_
  · clear hHeld hSw
    go_simp
  try simp only [Act.put, List.setIfInBounds_toArray, List.set_cons_zero, List.set_cons_succ]
  refine wpAnyH_take (i := 13) (oi := { dst := some 35, op := Op.slice 9 (Operand.tmp 34) (some (Operand.const (Value.int IntKind.i64 11))) (some (Operand.const (Value.int IntKind.i64 19))) none, type := 9, pos := "ref.go:64", after := #[{ on := 12, ground := Ground.data }], guard := none }) (v := .string ⟨C.toArray⟩) rfl (by kernel_rfl) (by kernel_rfl) (by kernel_rfl) (fun _ _ _ h => h) (Or.inl ⟨by rfl, fun w hSw => ?_⟩) (by assumption) ?_
  · clear hHeld hSw
    go_simp
  try simp only [Act.put, List.setIfInBounds_toArray, List.set_cons_zero, List.set_cons_succ]
  refine wpAnyH_take (i := 15) (oi := { dst := some 37, op := Op.load 24 (Operand.tmp 4), type := 24, pos := "ref.go:64", after := #[], guard := none }) (v := .agg CX) rfl (by kernel_rfl) (by kernel_rfl) (by kernel_rfl) (fun _ _ _ h => h) (yieldsIf_load_arr Array.toArray_toList (by rfl) _ _ rfl _ _ rfl (fun _ h => h) u24 rfl hi24) (by assumption) ?_
  try simp only [Act.put, List.setIfInBounds_toArray, List.set_cons_zero, List.set_cons_succ]
  refine wpAnyH_ready (rs := [11, 17]) (by kernel_rfl) (by simp) ?_
  refine AllReadyH.cons (o := { dst := some 33, op := Op.call { callee := Callee.value (Operand.func 27), args := #[Operand.tmp 32], argTypes := #[9] }, type := 22, pos := "ref.go:64", after := #[{ on := 10, ground := Ground.data }], guard := none }) rfl (fun K hK => ?_) ?_
  · clear hHeld
    go_simp
    refine (HNE.out _).mono ?_; rintro e w9 ⟨rfl, rfl⟩
    go_wp2_with fail
    refine hK.out _ _ hr (fun hHeld => ?_)
    clear hK K
    try simp only [Act.put, List.setIfInBounds_toArray, List.set_cons_zero, List.set_cons_succ]
    refine wpAnyH_ready (rs := [14, 17]) (by kernel_rfl) (by simp) ?_
    refine AllReadyH.cons (o := { dst := some 36, op := Op.call { callee := Callee.value (Operand.func 27), args := #[Operand.tmp 35], argTypes := #[9] }, type := 22, pos := "ref.go:64", after := #[{ on := 13, ground := Ground.data }, { on := 11, ground := Ground.chain }], guard := none }) rfl (fun K hK => ?_) ?_
    · clear hHeld
      go_simp
      refine (HNC.out _).mono ?_; rintro e w9 ⟨rfl, rfl⟩
      go_wp2_with fail
      refine hK.out _ _ hr (fun hHeld => ?_)
      clear hK K
      try simp only [Act.put, List.setIfInBounds_toArray, List.set_cons_zero, List.set_cons_succ]
      refine wpAnyH_take (i := 16) (oi := { dst := some 38, op := Op.build 26 #[(0, Operand.tmp 24), (1, Operand.tmp 27), (2, Operand.tmp 30), (3, Operand.tmp 33), (4, Operand.tmp 36), (5, Operand.tmp 37)], type := 26, pos := "ref.go:64", after := #[{ on := 2, ground := Ground.data }, { on := 5, ground := Ground.data }, { on := 8, ground := Ground.data }, { on := 11, ground := Ground.data }, { on := 14, ground := Ground.data }, { on := 15, ground := Ground.data }], guard := none }) (v := .agg PC) rfl (by kernel_rfl) (by kernel_rfl) (by kernel_rfl) (fun _ _ _ h => h) (Or.inl ⟨by rfl, fun w hSw => ?_⟩) (by assumption) ?_
      · clear hHeld hSw
        go_simp
      try simp only [Act.put, List.setIfInBounds_toArray, List.set_cons_zero, List.set_cons_succ]
      refine wpAnyH_ready (rs := [17]) (by kernel_rfl) (by simp) ?_
      refine AllReadyH.cons (o := { dst := some 6, op := Op.alloc 26, type := 0, pos := "ref.go:64", after := #[], guard := none }) rfl (fun K hK => ?_) AllReadyH.nil
      clear hHeld
      go_simp
      refine hK.out _ _ ha (fun hHeld => ?_)
      clear hK K
      try simp only [Act.put, List.setIfInBounds_toArray, List.set_cons_zero, List.set_cons_succ]
      refine wpAnyH_ready (rs := [18]) (by kernel_rfl) (by simp) ?_
      refine AllReadyH.cons (o := { dst := none, op := Op.store 26 (Operand.tmp 6) (Operand.tmp 38), type := 0, pos := "ref.go:64", after := #[{ on := 17, ground := Ground.data }, { on := 16, ground := Ground.data }, { on := 14, ground := Ground.chain }, { on := 0, ground := Ground.phase }, { on := 1, ground := Ground.phase }, { on := 2, ground := Ground.phase }, { on := 3, ground := Ground.phase }, { on := 4, ground := Ground.phase }, { on := 5, ground := Ground.phase }, { on := 6, ground := Ground.phase }, { on := 7, ground := Ground.phase }, { on := 8, ground := Ground.phase }, { on := 9, ground := Ground.phase }, { on := 10, ground := Ground.phase }, { on := 11, ground := Ground.phase }, { on := 12, ground := Ground.phase }, { on := 13, ground := Ground.phase }, { on := 14, ground := Ground.phase }, { on := 15, ground := Ground.phase }, { on := 16, ground := Ground.phase }, { on := 17, ground := Ground.phase }], guard := none }) rfl (fun K hK => ?_) AllReadyH.nil
      rw [if_pos (by rfl)]
      refine wp_store_row 26 _ _ rfl w2.heap.size PC rfl rfl 26 Z0 HG.out RP.out.info (RZ.out.sizes RP.out) RP.out.2 ?_
      refine hK.out _ _ hf (fun hHeld => ?_)
      clear hK K hHeld
      simp only [Act.put]
      refine wpAnyH_done (by kernel_rfl) ?_ _
      refine NoPanic.normal ?_
      generalize ((w2.alloc (.cells Z0 26)).drew).setRow w2.heap.size PC = w3 at B3 W3 P3 ⊢
      generalize w2.heap.size = g at B3 ⊢
      clear ha hf HG hr i0 i1 i2 s0 s1 hl hlz hlw h23 hS
      obtain rfl := HSs.out
      go_wp2_with (refine wpList_load_row rfl 26 _ rfl g rfl 26 _ (0, 0) _ B3.out Tryd.underlying26 rfl RP.out.info (Hid.out ?_))
      refine hid ?_
      go_wp2_with fail
      refine (HEn.out _).mono ?_; rintro e w5 ⟨rfl, hb⟩
      have B5 := hid (B3.out.below hb B3.out.lt)
      have W5 := hid (W3.out.trans (hb.mono W3.out.size))
      have P5 := hid (P3.out.below hb P3.out.lt)
      clear hb B3 W3 P3 HEn
      by_cases hy : z = 0
      · by_cases hF : F = 0
        · by_cases hd : D = s
          · obtain ⟨rfl, rfl⟩ := HYes.out hy hF hd
            subst hy
            subst hF
            clear HNo HYes
            have hd2 : (D == s) = true := by simpa using hd
            go_wp2_with (first | (refine wpList_load_row rfl 26 _ rfl g rfl 26 _ (0, 0) _ B5.out Tryd.underlying26 rfl RP.out.info ?_) | (refine wpList_store_row rfl 26 _ _ rfl w.heap.size _ rfl rfl 26 _ P5.out RP.out.info (RZ.out.sizes RP.out) RP.out.2 ?_))
            exact bodyPost_ret (v := .tuple #[.agg DC, .int .i64 0]) (ret_raw2 rfl rfl rfl P5.out.set RP.out) rfl ⟨rfl, below_setRow W5.out (Nat.le_refl _) _⟩
          · obtain ⟨rfl, rfl⟩ := HNo.out (fun h => hd h.2.2)
            subst hy
            subst hF
            clear HNo HYes
            have hd2 : (D == s) = false := by simpa using hd
            go_wp2_with (refine wpList_store_row rfl 26 _ _ rfl w.heap.size DC rfl rfl 26 _ P5.out RZ.out.info (RZ.out.sizes RZ.out) RZ.out.2 ?_)
            exact bodyPost_ret (v := .tuple #[.agg DC, .int .i64 140]) (ret_raw2 rfl rfl rfl P5.out.set RZ.out) rfl ⟨rfl, below_setRow W5.out (Nat.le_refl _) _⟩
        · obtain ⟨rfl, rfl⟩ := HNo.out (fun h => hF h.2.1)
          subst hy
          clear HNo HYes
          have hF2 : (F == 0) = false := beq_eq_false_iff_ne.2 hF
          go_wp2_with (refine wpList_store_row rfl 26 _ _ rfl w.heap.size DC rfl rfl 26 _ P5.out RZ.out.info (RZ.out.sizes RZ.out) RZ.out.2 ?_)
          exact bodyPost_ret (v := .tuple #[.agg DC, .int .i64 140]) (ret_raw2 rfl rfl rfl P5.out.set RZ.out) rfl ⟨rfl, below_setRow W5.out (Nat.le_refl _) _⟩
      · obtain ⟨rfl, rfl⟩ := HNo.out (fun h => hy h.1)
        clear HNo HYes
        have hy2 : (z == 0) = false := beq_eq_false_iff_ne.2 hy
        go_wp2_with (refine wpList_store_row rfl 26 _ _ rfl w.heap.size DC rfl rfl 26 _ P5.out RZ.out.info (RZ.out.sizes RZ.out) RZ.out.2 ?_)
        exact bodyPost_ret (v := .tuple #[.agg DC, .int .i64 140]) (ret_raw2 rfl rfl rfl P5.out.set RZ.out) rfl ⟨rfl, below_setRow W5.out (Nat.le_refl _) _⟩
    refine AllReadyH.cons (o := { dst := some 6, op := Op.alloc 26, type := 0, pos := "ref.go:64", after := #[], guard := none }) rfl (fun K hK => ?_) AllReadyH.nil
    clear hHeld
    go_simp
    refine hK.out _ _ ha (fun hHeld => ?_)
    clear hK K
    try simp only [Act.put, List.setIfInBounds_toArray, List.set_cons_zero, List.set_cons_succ]
    refine wpAnyH_ready (rs := [14]) (by kernel_rfl) (by simp) ?_
    refine AllReadyH.cons (o := { dst := some 36, op := Op.call { callee := Callee.value (Operand.func 27), args := #[Operand.tmp 35], argTypes := #[9] }, type := 22, pos := "ref.go:64", after := #[{ on := 13, ground := Ground.data }, { on := 11, ground := Ground.chain }], guard := none }) rfl (fun K hK => ?_) AllReadyH.nil
    clear hHeld
    go_simp
    refine (HNC.out _).mono ?_; rintro e w9 ⟨rfl, rfl⟩
    go_wp2_with fail
    refine hK.out _ _ ha (fun hHeld => ?_)
    clear hK K
    try simp only [Act.put, List.setIfInBounds_toArray, List.set_cons_zero, List.set_cons_succ]
    refine wpAnyH_take (i := 16) (oi := { dst := some 38, op := Op.build 26 #[(0, Operand.tmp 24), (1, Operand.tmp 27), (2, Operand.tmp 30), (3, Operand.tmp 33), (4, Operand.tmp 36), (5, Operand.tmp 37)], type := 26, pos := "ref.go:64", after := #[{ on := 2, ground := Ground.data }, { on := 5, ground := Ground.data }, { on := 8, ground := Ground.data }, { on := 11, ground := Ground.data }, { on := 14, ground := Ground.data }, { on := 15, ground := Ground.data }], guard := none }) (v := .agg PC) rfl (by kernel_rfl) (by kernel_rfl) (by kernel_rfl) (fun _ _ _ h => h) (Or.inl ⟨by rfl, fun w hSw => ?_⟩) (by assumption) ?_
    · clear hHeld hSw
      go_simp
    try simp only [Act.put, List.setIfInBounds_toArray, List.set_cons_zero, List.set_cons_succ]
    refine wpAnyH_ready (rs := [18]) (by kernel_rfl) (by simp) ?_
    refine AllReadyH.cons (o := { dst := none, op := Op.store 26 (Operand.tmp 6) (Operand.tmp 38), type := 0, pos := "ref.go:64", after := #[{ on := 17, ground := Ground.data }, { on := 16, ground := Ground.data }, { on := 14, ground := Ground.chain }, { on := 0, ground := Ground.phase }, { on := 1, ground := Ground.phase }, { on := 2, ground := Ground.phase }, { on := 3, ground := Ground.phase }, { on := 4, ground := Ground.phase }, { on := 5, ground := Ground.phase }, { on := 6, ground := Ground.phase }, { on := 7, ground := Ground.phase }, { on := 8, ground := Ground.phase }, { on := 9, ground := Ground.phase }, { on := 10, ground := Ground.phase }, { on := 11, ground := Ground.phase }, { on := 12, ground := Ground.phase }, { on := 13, ground := Ground.phase }, { on := 14, ground := Ground.phase }, { on := 15, ground := Ground.phase }, { on := 16, ground := Ground.phase }, { on := 17, ground := Ground.phase }], guard := none }) rfl (fun K hK => ?_) AllReadyH.nil
    rw [if_pos (by rfl)]
    refine wp_store_row 26 _ _ rfl w2.heap.size PC rfl rfl 26 Z0 HG.out RP.out.info (RZ.out.sizes RP.out) RP.out.2 ?_
    refine hK.out _ _ hf (fun hHeld => ?_)
    clear hK K hHeld
    simp only [Act.put]
    refine wpAnyH_done (by kernel_rfl) ?_ _
    refine NoPanic.normal ?_
    generalize ((w2.alloc (.cells Z0 26)).drew).setRow w2.heap.size PC = w3 at B3 W3 P3 ⊢
    generalize w2.heap.size = g at B3 ⊢
    clear ha hf HG hr i0 i1 i2 s0 s1 hl hlz hlw h23 hS
    obtain rfl := HSs.out
    go_wp2_with (refine wpList_load_row rfl 26 _ rfl g rfl 26 _ (0, 0) _ B3.out Tryd.underlying26 rfl RP.out.info (Hid.out ?_))
    refine hid ?_
    go_wp2_with fail
    refine (HEn.out _).mono ?_; rintro e w5 ⟨rfl, hb⟩
    have B5 := hid (B3.out.below hb B3.out.lt)
    have W5 := hid (W3.out.trans (hb.mono W3.out.size))
    have P5 := hid (P3.out.below hb P3.out.lt)
    clear hb B3 W3 P3 HEn
    by_cases hy : z = 0
    · by_cases hF : F = 0
      · by_cases hd : D = s
        · obtain ⟨rfl, rfl⟩ := HYes.out hy hF hd
          subst hy
          subst hF
          clear HNo HYes
          have hd2 : (D == s) = true := by simpa using hd
          go_wp2_with (first | (refine wpList_load_row rfl 26 _ rfl g rfl 26 _ (0, 0) _ B5.out Tryd.underlying26 rfl RP.out.info ?_) | (refine wpList_store_row rfl 26 _ _ rfl w.heap.size _ rfl rfl 26 _ P5.out RP.out.info (RZ.out.sizes RP.out) RP.out.2 ?_))
          exact bodyPost_ret (v := .tuple #[.agg DC, .int .i64 0]) (ret_raw2 rfl rfl rfl P5.out.set RP.out) rfl ⟨rfl, below_setRow W5.out (Nat.le_refl _) _⟩
        · obtain ⟨rfl, rfl⟩ := HNo.out (fun h => hd h.2.2)
          subst hy
          subst hF
          clear HNo HYes
          have hd2 : (D == s) = false := by simpa using hd
          go_wp2_with (refine wpList_store_row rfl 26 _ _ rfl w.heap.size DC rfl rfl 26 _ P5.out RZ.out.info (RZ.out.sizes RZ.out) RZ.out.2 ?_)
          exact bodyPost_ret (v := .tuple #[.agg DC, .int .i64 140]) (ret_raw2 rfl rfl rfl P5.out.set RZ.out) rfl ⟨rfl, below_setRow W5.out (Nat.le_refl _) _⟩
      · obtain ⟨rfl, rfl⟩ := HNo.out (fun h => hF h.2.1)
        subst hy
        clear HNo HYes
        have hF2 : (F == 0) = false := beq_eq_false_iff_ne.2 hF
        go_wp2_with (refine wpList_store_row rfl 26 _ _ rfl w.heap.size DC rfl rfl 26 _ P5.out RZ.out.info (RZ.out.sizes RZ.out) RZ.out.2 ?_)
        exact bodyPost_ret (v := .tuple #[.agg DC, .int .i64 140]) (ret_raw2 rfl rfl rfl P5.out.set RZ.out) rfl ⟨rfl, below_setRow W5.out (Nat.le_refl _) _⟩
    · obtain ⟨rfl, rfl⟩ := HNo.out (fun h => hy h.1)
      clear HNo HYes
      have hy2 : (z == 0) = false := beq_eq_false_iff_ne.2 hy
      go_wp2_with (refine wpList_store_row rfl 26 _ _ rfl w.heap.size DC rfl rfl 26 _ P5.out RZ.out.info (RZ.out.sizes RZ.out) RZ.out.2 ?_)
      exact bodyPost_ret (v := .tuple #[.agg DC, .int .i64 140]) (ret_raw2 rfl rfl rfl P5.out.set RZ.out) rfl ⟨rfl, below_setRow W5.out (Nat.le_refl _) _⟩
  refine AllReadyH.cons (o := { dst := some 6, op := Op.alloc 26, type := 0, pos := "ref.go:64", after := #[], guard := none }) rfl (fun K hK => ?_) AllReadyH.nil
  clear hHeld
  go_simp
  refine hK.out _ _ ha (fun hHeld => ?_)
  clear hK K
  try simp only [Act.put, List.setIfInBounds_toArray, List.set_cons_zero, List.set_cons_succ]
  refine wpAnyH_ready (rs := [11]) (by kernel_rfl) (by simp) ?_
  refine AllReadyH.cons (o := { dst := some 33, op := Op.call { callee := Callee.value (Operand.func 27), args := #[Operand.tmp 32], argTypes := #[9] }, type := 22, pos := "ref.go:64", after := #[{ on := 10, ground := Ground.data }], guard := none }) rfl (fun K hK => ?_) AllReadyH.nil
  clear hHeld
  go_simp
  refine (HNE.out _).mono ?_; rintro e w9 ⟨rfl, rfl⟩
  go_wp2_with fail
  refine hK.out _ _ ha (fun hHeld => ?_)
  clear hK K
  try simp only [Act.put, List.setIfInBounds_toArray, List.set_cons_zero, List.set_cons_succ]
  refine wpAnyH_ready (rs := [14]) (by kernel_rfl) (by simp) ?_
  refine AllReadyH.cons (o := { dst := some 36, op := Op.call { callee := Callee.value (Operand.func 27), args := #[Operand.tmp 35], argTypes := #[9] }, type := 22, pos := "ref.go:64", after := #[{ on := 13, ground := Ground.data }, { on := 11, ground := Ground.chain }], guard := none }) rfl (fun K hK => ?_) AllReadyH.nil
  clear hHeld
  go_simp
  refine (HNC.out _).mono ?_; rintro e w9 ⟨rfl, rfl⟩
  go_wp2_with fail
  refine hK.out _ _ ha (fun hHeld => ?_)
  clear hK K
  try simp only [Act.put, List.setIfInBounds_toArray, List.set_cons_zero, List.set_cons_succ]
  refine wpAnyH_take (i := 16) (oi := { dst := some 38, op := Op.build 26 #[(0, Operand.tmp 24), (1, Operand.tmp 27), (2, Operand.tmp 30), (3, Operand.tmp 33), (4, Operand.tmp 36), (5, Operand.tmp 37)], type := 26, pos := "ref.go:64", after := #[{ on := 2, ground := Ground.data }, { on := 5, ground := Ground.data }, { on := 8, ground := Ground.data }, { on := 11, ground := Ground.data }, { on := 14, ground := Ground.data }, { on := 15, ground := Ground.data }], guard := none }) (v := .agg PC) rfl (by kernel_rfl) (by kernel_rfl) (by kernel_rfl) (fun _ _ _ h => h) (Or.inl ⟨by rfl, fun w hSw => ?_⟩) (by assumption) ?_
  · clear hHeld hSw
    go_simp
  try simp only [Act.put, List.setIfInBounds_toArray, List.set_cons_zero, List.set_cons_succ]
  refine wpAnyH_ready (rs := [18]) (by kernel_rfl) (by simp) ?_
  refine AllReadyH.cons (o := { dst := none, op := Op.store 26 (Operand.tmp 6) (Operand.tmp 38), type := 0, pos := "ref.go:64", after := #[{ on := 17, ground := Ground.data }, { on := 16, ground := Ground.data }, { on := 14, ground := Ground.chain }, { on := 0, ground := Ground.phase }, { on := 1, ground := Ground.phase }, { on := 2, ground := Ground.phase }, { on := 3, ground := Ground.phase }, { on := 4, ground := Ground.phase }, { on := 5, ground := Ground.phase }, { on := 6, ground := Ground.phase }, { on := 7, ground := Ground.phase }, { on := 8, ground := Ground.phase }, { on := 9, ground := Ground.phase }, { on := 10, ground := Ground.phase }, { on := 11, ground := Ground.phase }, { on := 12, ground := Ground.phase }, { on := 13, ground := Ground.phase }, { on := 14, ground := Ground.phase }, { on := 15, ground := Ground.phase }, { on := 16, ground := Ground.phase }, { on := 17, ground := Ground.phase }], guard := none }) rfl (fun K hK => ?_) AllReadyH.nil
  rw [if_pos (by rfl)]
  refine wp_store_row 26 _ _ rfl w2.heap.size PC rfl rfl 26 Z0 HG.out RP.out.info (RZ.out.sizes RP.out) RP.out.2 ?_
  refine hK.out _ _ hf (fun hHeld => ?_)
  clear hK K hHeld
  simp only [Act.put]
  refine wpAnyH_done (by kernel_rfl) ?_ _
  refine NoPanic.normal ?_
  generalize ((w2.alloc (.cells Z0 26)).drew).setRow w2.heap.size PC = w3 at B3 W3 P3 ⊢
  generalize w2.heap.size = g at B3 ⊢
  clear ha hf HG hr i0 i1 i2 s0 s1 hl hlz hlw h23 hS
  obtain rfl := HSs.out
  go_wp2_with (refine wpList_load_row rfl 26 _ rfl g rfl 26 _ (0, 0) _ B3.out Tryd.underlying26 rfl RP.out.info (Hid.out ?_))
  refine hid ?_
  go_wp2_with fail
  refine (HEn.out _).mono ?_; rintro e w5 ⟨rfl, hb⟩
  have B5 := hid (B3.out.below hb B3.out.lt)
  have W5 := hid (W3.out.trans (hb.mono W3.out.size))
  have P5 := hid (P3.out.below hb P3.out.lt)
  clear hb B3 W3 P3 HEn
  by_cases hy : z = 0
  · by_cases hF : F = 0
    · by_cases hd : D = s
      · obtain ⟨rfl, rfl⟩ := HYes.out hy hF hd
        subst hy
        subst hF
        clear HNo HYes
        have hd2 : (D == s) = true := by simpa using hd
        go_wp2_with (first | (refine wpList_load_row rfl 26 _ rfl g rfl 26 _ (0, 0) _ B5.out Tryd.underlying26 rfl RP.out.info ?_) | (refine wpList_store_row rfl 26 _ _ rfl w.heap.size _ rfl rfl 26 _ P5.out RP.out.info (RZ.out.sizes RP.out) RP.out.2 ?_))
        exact bodyPost_ret (v := .tuple #[.agg DC, .int .i64 0]) (ret_raw2 rfl rfl rfl P5.out.set RP.out) rfl ⟨rfl, below_setRow W5.out (Nat.le_refl _) _⟩
      · obtain ⟨rfl, rfl⟩ := HNo.out (fun h => hd h.2.2)
        subst hy
        subst hF
        clear HNo HYes
        have hd2 : (D == s) = false := by simpa using hd
        go_wp2_with (refine wpList_store_row rfl 26 _ _ rfl w.heap.size DC rfl rfl 26 _ P5.out RZ.out.info (RZ.out.sizes RZ.out) RZ.out.2 ?_)
        exact bodyPost_ret (v := .tuple #[.agg DC, .int .i64 140]) (ret_raw2 rfl rfl rfl P5.out.set RZ.out) rfl ⟨rfl, below_setRow W5.out (Nat.le_refl _) _⟩
    · obtain ⟨rfl, rfl⟩ := HNo.out (fun h => hF h.2.1)
      subst hy
      clear HNo HYes
      have hF2 : (F == 0) = false := beq_eq_false_iff_ne.2 hF
      go_wp2_with (refine wpList_store_row rfl 26 _ _ rfl w.heap.size DC rfl rfl 26 _ P5.out RZ.out.info (RZ.out.sizes RZ.out) RZ.out.2 ?_)
      exact bodyPost_ret (v := .tuple #[.agg DC, .int .i64 140]) (ret_raw2 rfl rfl rfl P5.out.set RZ.out) rfl ⟨rfl, below_setRow W5.out (Nat.le_refl _) _⟩
  · obtain ⟨rfl, rfl⟩ := HNo.out (fun h => hy h.1)
    clear HNo HYes
    have hy2 : (z == 0) = false := beq_eq_false_iff_ne.2 hy
    go_wp2_with (refine wpList_store_row rfl 26 _ _ rfl w.heap.size DC rfl rfl 26 _ P5.out RZ.out.info (RZ.out.sizes RZ.out) RZ.out.2 ?_)
    exact bodyPost_ret (v := .tuple #[.agg DC, .int .i64 140]) (ret_raw2 rfl rfl rfl P5.out.set RZ.out) rfl ⟨rfl, below_setRow W5.out (Nat.le_refl _) _⟩
/-- the document's Decode -/
theorem rdecode_any (s : Bs) (w : World) (hs : s.length ≤ 20000) : Calls Tryd.prog 15 #[.string ⟨s.toArray⟩] w fun e w' => e = .returned (.tuple #[.agg (pkCells (decPk s)), .int .i64 (decE s)]) ∧ Below w.heap.size w w' := by
  have hz := ba_size s
  by_cases h0 : 23 ≤ s.length
  · have i : ∀ (k : Nat) (h : k < s.length) (W : World), (Instr.index 9 (.string ⟨s.toArray⟩) (.int .i64 (k : Int))).run Tryd.prog W = .ok (.int .u8 ((s.getD k 0).toNat : Int)) W := fun k h W => by
      rw [index_at s k h W]
      simp [List.getD, h]
    obtain ⟨z, hpv, hpz⟩ := parseVal_set ((s.drop 21).take (s.length - 23))
    have hbu := built_form (s.getD 0 0).toNat (s.getD 1 0).toNat (s.getD 2 0).toNat (nb ((s.drop 3).take 8)) (nb ((s.drop 11).take 8)) (setOf ((s.drop 21).take (s.length - 23)))
    rw [zeroPk, cellsOf_size] at hbu
    have he8 : ((s.drop 3).take 8).length ≤ 8 := by rw [List.length_take]; omega
    have hc8 : ((s.drop 11).take 8).length ≤ 8 := by rw [List.length_take]; omega
    refine rdec_core ⟨s.toArray⟩ s rfl (s.getD 0 0).toNat (s.getD 1 0).toNat (s.getD 2 0).toNat (nb ((s.drop 3).take 8)) (nb ((s.drop 11).take 8)) ((s.drop 3).take 8) ((s.drop 11).take 8) ((s.drop 21).take (s.length - 23)) (encS (rdP s))
      (cellsOf (setOf ((s.drop 21).take (s.length - 23)))) (cellsOf fun _ => false) (pkCells (rdP s)) (pkCells zeroP) (pkCells (decPk s)) z (encE (rdP s)) (decE s) w (by omega) (by omega) zeroPk zeroBits (rw_pk _) (rw_pk _) (cellsOf_size _) (cellsOf_size _) (oneCells _) hbu
      (fun W => i 0 (by omega) W) (fun W => i 1 (by omega) W) (fun W => i 2 (by omega) W)
      (fun W => slice_at s 3 11 3 11 rfl rfl (by omega) (by omega) W) (fun W => slice_at s 11 19 11 19 rfl rfl (by omega) (by omega) W) (fun W => ?_) (UInt8.toNat_lt _) (UInt8.toNat_lt _) (UInt8.toNat_lt _) (fun W => ?_) (fun W => rnumber_any _ he8 W) (fun W => rnumber_any _ hc8 W) (fun W => rencode_any (rdP s) W (nb_u64 _ he8) (nb_u64 _ hc8)) (fun h => ?_) (fun h1 h2 h3 => ?_)
    · have := slice_at s 21 (s.length - 2) 21 ((s.length : Int) - 2) rfl (by omega) (by omega) (by omega) W
      rw [show s.length - 2 - 21 = s.length - 23 by omega] at this
      rw [hz]
      exact this
    · have := rParse_any ((s.drop 21).take (s.length - 23)) W (by rw [List.length_take]; omega)
      rwa [hpv] at this
    · have hn : decP s = none := by
        refine dec_bad fun hg => h ⟨?_, ?_, ?_⟩
        · refine hpz.2 fun hp => ?_
          exact parse_none hp hg.2
        · unfold encE; rw [if_pos hg.1]
        · unfold encS; rw [if_pos hg.1, hg.2]
      obtain ⟨e1, e2⟩ := dec_not hn
      rw [e1]; exact ⟨rfl, e2⟩
    · have hg : rightP (rdP s) = true := by
        cases e : rightP (rdP s)
        · unfold encE at h2; rw [e, if_neg (by decide)] at h2; exact absurd h2 (by decide)
        · rfl
      have hd : enc (rdP s) = s := by
        unfold encS at h3
        rwa [if_pos hg] at h3
      obtain ⟨e1, e2⟩ := dec_is (dec_good h0 hg hd)
      rw [e1]; exact ⟨rfl, e2⟩
  · obtain ⟨e1, e2⟩ := dec_not (dec_short (show s.length < 23 by omega))
    rw [e1, e2]
    exact rdec_short ⟨s.toArray⟩ w (by omega)

end Go.Proofs.YtgpdbcigogkkbaaDoor
