/- LawV2. -/
import Derived.Test.YtdicjnkbmlamgabM35
namespace Go.Proofs.Ytdicjnkbmlamgab
open Go.RowKit Go.Shelf
open Slot

/-- how a view begins, as cells -/
def bgC (self : Int) (S : Nat → Bool) (e : Nat) : Array Value := #[.int .i64 self] ++ cellsOf S ++ #[.int .u64 (e : Int)]
theorem bgC_size (self : Int) (S : Nat → Bool) (e : Nat) : (bgC self S e).size = 258 := by simp [bgC, cellsOf_size]
def BgB (w : World) (b : Nat) (self : Int) (S : Nat → Bool) (e : Nat) : Prop := w.heap[b]? = some (.cells (bgC self S e) 26 (0, 0))
theorem BgB.lt {w : World} {b : Nat} {self : Int} {S : Nat → Bool} {e : Nat} (h : BgB w b self S e) : b < w.heap.size := (Array.getElem?_eq_some_iff.1 h).1
theorem bg_new (w : World) (self : Int) (S : Nat → Bool) (e : Nat) : BgB (w.alloc (.cells (bgC self S e) 26)) w.heap.size self S e := heap_alloc_new w _
theorem BgB.below {w w' : World} {n b : Nat} {self : Int} {S : Nat → Bool} {e : Nat} (h : BgB w b self S e) (hb : Below n w w') (hn : b < n) : BgB w' b self S e := (hb.block b hn).trans h
theorem infoBg (self : Int) (S : Nat → Bool) (e : Nat) : (Try.prog.info? 26).map (·.size) = some (bgC self S e).size := by rw [bgC_size]; kernel_rfl
theorem BgB.cells {w : World} {b : Nat} {self : Int} {S : Nat → Bool} {e : Nat} (h : BgB w b self S e) : w.cell? ⟨b, 0, none⟩ = some (.int .i64 self) ∧ w.rangeAt b 1 (cellsOf S).toList ∧ w.cell? ⟨b, 257, none⟩ = some (.int .u64 (e : Int)) := by
  have hs : (cellsOf S).size = 256 := cellsOf_size S
  refine ⟨?_, fun j v hv => ?_, ?_⟩
  · rw [cell_of_row w b _ _ _ _ h]
    unfold bgC
    rw [Array.getElem?_append_left (by simp; omega), Array.getElem?_append_left (by simp)]
    rfl
  · have hj : j < 256 := by
      have := (List.getElem?_eq_some_iff.1 hv).1
      rwa [Array.length_toList, hs] at this
    rw [cell_of_row w b _ _ _ _ h]
    unfold bgC
    rw [Array.getElem?_append_left (by simp [hs]; omega), Array.getElem?_append_right (by simp)]
    rw [Array.getElem?_toList] at hv
    simpa using hv
  · rw [cell_of_row w b _ _ _ _ h]
    unfold bgC
    rw [Array.getElem?_append_right (by simp [hs])]
    simp [hs]
theorem ret_b3 {fn : Func} {p q r : Tmp} (h : fn.results = #[.tmp q, .cell p 33, .tmp r]) {tmps : Array Value} {w : World} {b : Nat} {RC : Array Value} {v x : Value} (hq : tmps.getD q undef = v) (hp : tmps.getD p undef = .pointer (some ⟨b, 0, none⟩)) (hr : tmps.getD r undef = x) (hs : RC.size = 3)
    (hB : w.heap[b]? = some (.cells RC 33 (0, 0))) : (results fn tmps).run Try.prog w = .ok (.tuple #[v, .agg RC, x]) w := by
  have hp' : tmps[p]?.getD undef = .pointer (some ⟨b, 0, none⟩) := by simpa using hp
  have hq' : tmps[q]?.getD undef = v := by simpa using hq
  have hr' : tmps[r]?.getD undef = x := by simpa using hr
  simp [results, h, hp', hq', hr', asAddr, run_loadVar_row w b 33 33 RC (0, 0) _ hB Try.underlying33 rfl (infoRV hs)]
theorem nd_vb_ne {w : World} {g b : Nat} {E : Nat → Nat} {K : Nat → Nat → Bool} {v : Vw} (h : Nd w g E K) (k : VB w b v) : g ≠ b := fun e => by
  obtain ⟨C, h1, _⟩ := h
  obtain ⟨D, k1, _⟩ := k
  rw [e, k1] at h1
  injection h1 with h2
  injection h2 with _ h3
  cases h3
theorem row_vb_ne {w : World} {c b : Nat} {C : Array Value} {v : Vw} (h : w.heap[c]? = some (.cells C 33 (0, 0))) (k : VB w b v) : c ≠ b := fun e => by
  obtain ⟨D, k1, _⟩ := k
  rw [e, k1] at h
  injection h with h2
  injection h2 with _ h3
  cases h3
theorem row_nd_ne {w : World} {c g : Nat} {C : Array Value} {E : Nat → Nat} {K : Nat → Nat → Bool} (h : w.heap[c]? = some (.cells C 33 (0, 0))) (k : Nd w g E K) : c ≠ g := fun e => by
  obtain ⟨D, k1, _⟩ := k
  rw [e, k1] at h
  injection h with h2
  injection h2 with _ h3
  cases h3
/-- what is begun: nothing, or a view and the document's -/
def BegP (w : World) (e : Ending) (w' : World) : Prop :=
  ∃ x RC, e = .returned (.tuple #[x, .agg RC, .bool true]) ∧ RC.size = 3 ∧ RC.all (·.oneCell') = true ∧ Below w.heap.size w w' ∧
    (x = .pointer none ∨ ∃ b v g cap, x = .pointer (some ⟨b, 0, none⟩) ∧ RC = rvc v.self g cap v.cur ∧ VB w' b v ∧ Nd w' g v.ep v.cl ∧ v.Ok 40 ∧ w.heap.size ≤ b)
theorem zrv_all : zrv.all (·.oneCell') = true := by simp [zrv, Value.oneCell']
theorem row_range {W : World} {b : Nat} {C : Array Value} {t : TypeId} (h : W.heap[b]? = some (.cells C t (0, 0))) : W.rangeAt b 0 C.toList := fun j v hv => by
  rw [Nat.zero_add, cell_of_row _ _ _ _ _ _ h]
  rwa [Array.getElem?_toList] at hv
set_option maxHeartbeats 4000000 in
set_option maxRecDepth 100000 in
theorem begun_no (self : Int) (S : Nat → Bool) (e : Nat) (cc : Int) (a : Option Addr) (n c : Nat) (w : World) (h : newE self e = cc) (hc : cc ≠ 0) : Calls Try.prog 4 #[.agg (bgC self S e), .slice a n c] w (BegP w) := by
  have h1 := below_alloc w (.cells (bgC self S e) 26)
  have h2 := below_alloc (w.alloc (.cells (bgC self S e) 26)) (.cells zrv 33)
  have e1 : (w.alloc (.cells (bgC self S e) 26)).heap.size = w.heap.size + 1 := by simp
  have HB0 := hid ((bg_new w self S e).below h2 (by omega))
  have HR0 : Hid (((w.alloc (.cells (bgC self S e) 26)).alloc (.cells zrv 33)).heap[w.heap.size + 1]? = some (.cells zrv 33 (0, 0))) := by
    have := heap_alloc_new (w.alloc (.cells (bgC self S e) 26)) (.cells zrv 33)
    rwa [e1] at this
  have HW0 := hid (h1.trans (h2.mono (by omega)))
  have HNp := hid (fun W => pnew_no self e S cc W h hc)
  have HNr := hid (fun W => rnew_no self e S cc W h hc)
  have iC := infoBl (S := S)
  have HBc := hid (fun W (h : BgB W w.heap.size self S e) => h.cells)
  obtain ⟨BC, hBC⟩ : ∃ C, bgC self S e = C := ⟨_, rfl⟩
  have HBk : Hid (∀ W W', BgB W w.heap.size self S e → Below W.heap.size W W' → BgB W' w.heap.size self S e) := fun W W' h hb => h.below hb h.lt
  obtain ⟨CS, hCS⟩ : ∃ C, cellsOf S = C := ⟨_, rfl⟩
  rw [hCS] at HNp HNr iC HBc
  rw [hBC] at HB0 HR0 HW0 ⊢
  have hcc : (cc == 0) = false := beq_eq_false_iff_ne.2 hc
  have hrf : (cc != cc) = false := by simp
  clear h h1 h2 e1 hBC hCS hc
  obtain ⟨q0, q1, q2⟩ := HBc.out _ HB0.out
  have HQ1 := hid q1
  clear q1
  have hz : zrv = #[.int .i64 0, .slice none 0 0, .int .u64 0] := rfl
  rw [hz] at HB0 HR0 HW0 HQ1 q0 q2
  go_enter Try.func4, Try.ntmps4
  go_upto_region 1 with fail
  generalize (w.alloc (.cells BC 26)).alloc (.cells #[.int .i64 0, .slice none 0 0, .int .u64 0] 33) = w2 at *
  go_wp2_with (refine wpList_load_mid rfl 24 _ rfl w.heap.size 1 rfl _ _ HQ1.out Try.underlying24 rfl iC ?_; rw [Array.toArray_toList])
  refine (HNp.out _).mono ?_; rintro r w3 ⟨rfl, hb3⟩
  have HB3 := hid (HBk.out _ _ HB0.out hb3)
  have HR3 := hid ((hb3.block _ (Array.getElem?_eq_some_iff.1 HR0.out).1).trans HR0.out)
  have HW3 := hid (HW0.out.trans (hb3.mono HW0.out.size))
  clear hb3 q0 q2 HQ1 HB0 HR0 HW0
  obtain ⟨q0, q1, q2⟩ := HBc.out _ HB3.out
  have HQ1 := hid q1
  clear q1
  go_wp2_with (refine wpList_load_mid rfl 24 _ rfl w.heap.size 1 rfl _ _ HQ1.out Try.underlying24 rfl iC ?_; rw [Array.toArray_toList])
  refine (HNr.out _).mono ?_; rintro r w4 ⟨rfl, hb4⟩
  have HR4 := hid ((hb4.block _ (Array.getElem?_eq_some_iff.1 HR3.out).1).trans HR3.out)
  have HW4 := hid (HW3.out.trans (hb4.mono HW3.out.size))
  have HZ5 := hid (heap_alloc_new w4 (.cells #[.int .i64 0, .slice none 0 0, .int .u64 0] 33))
  have HA5 := hid (setRow_heap _ _ _ zrv _ _ HZ5.out)
  have hl4 : w.heap.size + 1 < w4.heap.size := (Array.getElem?_eq_some_iff.1 HR4.out).1
  have HR5 : Hid (((w4.alloc (.cells #[.int .i64 0, .slice none 0 0, .int .u64 0] 33)).setRow w4.heap.size zrv).heap[w.heap.size + 1]? = some (.cells #[.int .i64 0, .slice none 0 0, .int .u64 0] 33 (0, 0))) :=
    (setRow_other _ _ _ _ (by omega)).trans (((below_alloc w4 _).block _ hl4).trans HR4.out)
  have HW5 := hid (below_setRow (g := w4.heap.size) (HW4.out.alloc HW4.out.size (.cells #[.int .i64 0, .slice none 0 0, .int .u64 0] 33)) HW4.out.size zrv)
  have iR : (Try.prog.info? 33).map (·.size) = some zrv.size := infoRV rfl
  have iRl : (Try.prog.info? 33).map (·.size) = some zrv.toList.length := infoRV rfl
  have HRo := hid zrv_all
  have HRs : Hid (zrv.size = 3) := rfl
  have hzz : (#[.int .i64 0, .slice none 0 0, .int .u64 0] : Array Value).size = zrv.size := rfl
  have HLt := hid hl4
  clear hb4 hl4 q0 q2 HQ1 HB3 HR3 HW3 HW4 HR4 hz
  generalize zrv = RC at *
  go_wp2_with (refine wpList_store_row rfl 33 _ _ rfl w4.heap.size RC rfl rfl 33 _ HZ5.out iR hzz HRo.out ?_)
  go_upto_region 6 with fail
  generalize (w4.alloc (.cells #[.int .i64 0, .slice none 0 0, .int .u64 0] 33)).setRow w4.heap.size RC = w5 at *
  generalize w4.heap.size = rb at *
  have HRR : Hid (∀ W, W = w5.drew → W.rangeAt rb 0 RC.toList) := fun W h => by rw [h]; exact row_range (show w5.drew.heap[rb]? = _ from HA5.out)
  obtain ⟨rs, hrs⟩ : ∃ x, x = w.heap.size + 1 := ⟨_, rfl⟩
  have HRZ : Hid (w5.drew.heap[rs]? = some (.cells #[.int .i64 0, .slice none 0 0, .int .u64 0] 33 (0, 0))) := by rw [hrs]; exact HR5.out
  have HRk : Hid ((w5.drew.setRow rs RC).rangeAt rb 0 RC.toList) := row_range ((setRow_other _ _ _ _ (by have := HLt.out; omega)).trans (show w5.drew.heap[rb]? = _ from HA5.out))
  have HW6 := hid (below_setRow (HW5.out.drew) (show w.heap.size ≤ rs by omega) RC)
  rw [← hrs]
  clear hrs HZ5 HA5 HR5

  have u31 := Try.underlying33
  refine wp_region_held_drew (S := fun W => W.rangeAt rb 0 RC.toList) (by kernel_rfl) (HRR.out _ rfl) (fun hHeld => ?_)
  refine wpAnyH_take (i := 0) (oi := { dst := some 56, op := Op.load 33 (Operand.tmp 9), type := 33, pos := "law.go:77", after := #[{ on := 1, ground := Ground.gcOnly Departure.lateStores }], guard := none }) (v := .agg RC) rfl (by kernel_rfl) (by kernel_rfl) (by kernel_rfl) (fun _ _ _ h => h) (yieldsIf_load_arr Array.toArray_toList (by rfl) _ _ rfl _ _ rfl (fun _ h => h) u31 rfl iRl) (by assumption) ?_
  try simp only [Act.put, List.setIfInBounds_toArray, List.set_cons_zero, List.set_cons_succ]
  refine wpAnyH_take (i := 1) (oi := { dst := some 4, op := Op.assign (Operand.const (Value.pointer none)), type := 30, pos := "law.go:77", after := #[{ on := 0, ground := Ground.textOnly Departure.lateStores }], guard := none }) (v := .pointer none) rfl (by kernel_rfl) (by kernel_rfl) (by kernel_rfl) (fun _ _ _ h => h) (Or.inl ⟨by rfl, fun wS hSw => ?_⟩) (by assumption) ?_
  · clear hHeld
    clear hSw
    go_simp
  try simp only [Act.put, List.setIfInBounds_toArray, List.set_cons_zero, List.set_cons_succ]
  refine wpAnyH_ready (rs := [2]) (by kernel_rfl) (by simp) ?_
  refine AllReadyH.cons (o := { dst := none, op := Op.store 33 (Operand.tmp 5) (Operand.tmp 56), type := 0, pos := "law.go:77", after := #[{ on := 0, ground := Ground.data }, { on := 1, ground := Ground.chain }, { on := 0, ground := Ground.phase }, { on := 1, ground := Ground.phase }], guard := none }) rfl (fun K hK => ?_) AllReadyH.nil
  clear hHeld
  rw [if_pos (by rfl)]
  refine wp_store_row 33 _ _ rfl rs RC rfl rfl 33 _ HRZ.out iR (by rw [HRs.out]; rfl) HRo.out ?_
  refine hK.out _ _ HRk.out (fun hHeld => ?_)
  clear hK K
  try simp only [Act.put]
  refine wpAnyH_take (i := 3) (oi := { dst := some 6, op := Op.assign (Operand.const (Value.bool true)), type := 4, pos := "law.go:77", after := #[{ on := 2, ground := Ground.chain }, { on := 0, ground := Ground.phase }, { on := 1, ground := Ground.phase }, { on := 2, ground := Ground.phase }], guard := none }) (v := .bool true) rfl (by kernel_rfl) (by kernel_rfl) (by kernel_rfl) (fun _ _ _ h => h) (Or.inl ⟨by rfl, fun wS hSw => ?_⟩) (by assumption) ?_
  · clear hHeld
    clear hSw
    go_simp
  try simp only [Act.put, List.setIfInBounds_toArray, List.set_cons_zero, List.set_cons_succ]
  refine wpAnyH_done (by kernel_rfl) ?_ _
  clear hHeld
  go_wp2_with fail

  refine bodyPost_ret (v := .tuple #[.pointer none, .agg RC, .bool true]) (ret_b3 rfl rfl rfl rfl HRs.out (setRow_heap _ _ _ _ _ _ HRZ.out)) rfl ?_
  exact ⟨_, RC, rfl, HRs.out, HRo.out, HW6.out, .inl rfl⟩

theorem doV_self (v : Vw) (o : OpV) : (doV v o).self = v.self := by
  unfold doV
  split
  · unfold takeV
    split
    · exact take3_self v o.p
    · rfl
  · split
    · split <;> rfl
    · split
      · split <;> rfl
      · rfl
theorem doA_len (v : Vw) (o : OpV) : (doA v o).length ≤ 2 := by
  unfold doA answV
  split
  · split
    · unfold outV
      split <;> split <;> simp
    · exact Nat.zero_le _
  · exact Nat.zero_le _
/-- begun, on its way: the view and the document's -/
structure Bg (w wr : World) (b rb g cap : Nat) (v : Vw) : Prop where
  vb : VB wr b v
  rv : RVb wr rb v.self g cap v.cur
  nd : Nd wr g v.ep v.cl
  res : wr.heap[w.heap.size + 1]? = some (.cells zrv 33 (0, 0))
  bel : Below w.heap.size w wr
  hb : w.heap.size ≤ b
  hrb : w.heap.size + 1 < rb
theorem Bg.call {w wr w' : World} {b rb g cap : Nat} {v : Vw} (h : Bg w wr b rb g cap v) (hb : Below wr.heap.size wr w') : Bg w w' b rb g cap v :=
  ⟨h.vb.below hb h.vb.lt, h.rv.below hb h.rv.lt, h.nd.below hb h.nd.lt, (hb.block _ (Array.getElem?_eq_some_iff.1 h.res).1).trans h.res, h.bel.trans (hb.mono h.bel.size), h.hb, h.hrb⟩
theorem Bg.row {w wr : World} {b rb g cap : Nat} {v : Vw} (h : Bg w wr b rb g cap v) : wr.heap[rb]? = some (.cells (rvc v.self g cap v.cur) 33 (0, 0)) := h.rv
/-- a round of begun: the document's view is put anew -/
theorem Bg.step {w wr wd wp : World} {b rb g cap g' cap' : Nat} {v u : Vw} (h : Bg w wr b rb g cap v) (hbd : Below wr.heap.size wr wd) (hnd : Nd wd g' u.ep u.cl)
    (o : Only b (wd.setRow rb (rvc u.self g' cap' u.cur)) wp) (hv : VB wp b u) : Bg w wp b rb g' cap' u := by
  have h1 := h.call hbd
  have n1 : rb ≠ b := row_vb_ne h.rv h.vb
  have n2 : g' ≠ b := nd_vb_ne hnd h1.vb
  have n3 : rb ≠ g' := row_nd_ne h1.rv hnd
  have n4 : w.heap.size + 1 ≠ b := row_vb_ne h.res h.vb
  have hz : rb < (wd.setRow rb (rvc u.self g' cap' u.cur)).heap.size := by simpa using h1.rv.lt
  refine ⟨hv, (o.block _ hz n1).trans (setRow_heap _ _ _ _ _ _ h1.rv), hnd.turn ((o.block _ (by simpa using hnd.lt) n2).trans (setRow_other _ _ _ _ (fun e => n3 e.symm))), ?_, ?_, h.hb, h.hrb⟩
  · exact (o.block _ (by simpa using (Array.getElem?_eq_some_iff.1 h1.res).1) n4).trans ((setRow_other _ _ _ _ (by have := h.hrb; omega)).trans h1.res)
  · exact (below_setRow h1.bel (by have := h.hrb; omega) _).trans (o.below h.hb (by simpa using h1.bel.size))

set_option maxHeartbeats 8000000 in
set_option maxRecDepth 100000 in
theorem begun_yes (self e n c : Nat) (S : Nat → Bool) (a : Option Addr) (L : List OpV) (w : World) (hs : self < 64) (he : e ≤ 4611686018427387904) (hn : L.length = n) (hL : OpR w a L) (hm : n ≤ 9223372036854775807) :
    Calls Try.prog 4 #[.agg (bgC (self : Int) S e), .slice a n c] w (BegP w) := by
  have h1 := below_alloc w (.cells (bgC (self : Int) S e) 26)
  have h2 := below_alloc (w.alloc (.cells (bgC (self : Int) S e) 26)) (.cells zrv 33)
  have e1 : (w.alloc (.cells (bgC (self : Int) S e) 26)).heap.size = w.heap.size + 1 := by simp
  have HB0 := hid ((bg_new w (self : Int) S e).below h2 (by omega))
  have HR0 : Hid (((w.alloc (.cells (bgC (self : Int) S e) 26)).alloc (.cells zrv 33)).heap[w.heap.size + 1]? = some (.cells zrv 33 (0, 0))) := by
    have := heap_alloc_new (w.alloc (.cells (bgC (self : Int) S e) 26)) (.cells zrv 33)
    rwa [e1] at this
  have HW0 := hid (h1.trans (h2.mono (by omega)))
  have HNp := hid (fun W => pnew_yes self e S W hs he)
  have HNr := hid (fun W => rnew_yes self e S W hs he)
  have HOk0 := hid (new_ok S hs he)
  have HFw := hid (fun W h => few_any a L n c W hn h hm)
  have HOp := hid hL
  have HN := hid hn
  have iC := infoBl (S := S)
  have HBc := hid (fun W (h : BgB W w.heap.size (self : Int) S e) => h.cells)
  obtain ⟨BC, hBC⟩ : ∃ C, bgC (self : Int) S e = C := ⟨_, rfl⟩
  have HBk : Hid (∀ W W', BgB W w.heap.size (self : Int) S e → Below W.heap.size W W' → BgB W' w.heap.size (self : Int) S e) := fun W W' h hb => h.below hb h.lt
  obtain ⟨CS, hCS⟩ : ∃ C, cellsOf S = C := ⟨_, rfl⟩
  rw [hCS] at HNp HNr iC HBc
  rw [hBC] at HB0 HR0 HW0 ⊢
  have hself : Hid ((newV self S e).self = self ∧ (newV self S e).cur = e) := ⟨rfl, rfl⟩
  obtain ⟨v0, hv0⟩ : ∃ v, newV self S e = v := ⟨_, rfl⟩
  have HNp2 : Hid (∀ W, Calls Try.prog 13 #[.int .i64 (self : Int), .agg CS, .int .u64 (e : Int)] W fun r w' => ∃ b, r = .returned (.tuple #[.pointer (some ⟨b, 0, none⟩), .int .i64 0]) ∧ VB w' b v0 ∧ W.heap.size ≤ b ∧ Below W.heap.size W w') := fun W => by
    rw [← hv0]; exact HNp.out W
  rw [hv0] at HNr HOk0 hself
  clear h1 h2 e1 hBC hCS hs he hn hL hm hv0 HNp
  obtain ⟨q0, q1, q2⟩ := HBc.out _ HB0.out
  have HQ1 := hid q1
  clear q1
  have hz : zrv = #[.int .i64 0, .slice none 0 0, .int .u64 0] := rfl
  rw [hz] at HB0 HR0 HW0 HQ1 q0 q2
  go_enter Try.func4, Try.ntmps4
  go_upto_region 1 with fail
  generalize (w.alloc (.cells BC 26)).alloc (.cells #[.int .i64 0, .slice none 0 0, .int .u64 0] 33) = w2 at *
  go_wp2_with (refine wpList_load_mid rfl 24 _ rfl w.heap.size 1 rfl _ _ HQ1.out Try.underlying24 rfl iC ?_; rw [Array.toArray_toList])
  refine (HNp2.out _).mono ?_; rintro r w3 ⟨b, rfl, hv3, hbb, hb3⟩
  have HB3 := hid (HBk.out _ _ HB0.out hb3)
  have HR3 := hid ((hb3.block _ (Array.getElem?_eq_some_iff.1 HR0.out).1).trans HR0.out)
  have HW3 := hid (HW0.out.trans (hb3.mono HW0.out.size))
  have HV3 := hid hv3
  have HBw : Hid (w.heap.size ≤ b) := by have := HW0.out.size; show _ ≤ _; omega
  clear hb3 hv3 hbb q0 q2 HQ1 HB0 HR0 HW0
  obtain ⟨q0, q1, q2⟩ := HBc.out _ HB3.out
  have HQ1 := hid q1
  clear q1
  go_wp2_with (refine wpList_load_mid rfl 24 _ rfl w.heap.size 1 rfl _ _ HQ1.out Try.underlying24 rfl iC ?_; rw [Array.toArray_toList])
  refine (HNr.out _).mono ?_; rintro r w4 ⟨g, cap, rfl, hnd, -, hb4⟩
  have HR4 := hid ((hb4.block _ (Array.getElem?_eq_some_iff.1 HR3.out).1).trans HR3.out)
  have HW4 := hid (HW3.out.trans (hb4.mono HW3.out.size))
  have HZ5 := hid (heap_alloc_new w4 (.cells #[.int .i64 0, .slice none 0 0, .int .u64 0] 33))
  have hl4 : w.heap.size + 1 < w4.heap.size := (Array.getElem?_eq_some_iff.1 HR4.out).1
  have HG5 : Hid (Bg w ((w4.alloc (.cells #[.int .i64 0, .slice none 0 0, .int .u64 0] 33)).setRow w4.heap.size (rvc self g cap e)) b w4.heap.size g cap v0) := by
    have hb5 := below_alloc w4 (.cells #[.int .i64 0, .slice none 0 0, .int .u64 0] 33)
    have hv4 := HV3.out.below hb4 HV3.out.lt
    refine ⟨hv4.turn ((setRow_other _ _ _ _ (by have := hv4.lt; omega)).trans (hb5.block _ hv4.lt)), ?_, hnd.turn ((setRow_other _ _ _ _ (by have := hnd.lt; omega)).trans (hb5.block _ hnd.lt)), ?_, below_setRow (HW4.out.trans (hb5.mono HW4.out.size)) HW4.out.size _, HBw.out, hl4⟩
    · rw [hself.out.1, hself.out.2]
      exact setRow_heap _ _ _ (rvc self g cap e) _ _ HZ5.out
    · exact (setRow_other _ _ _ _ (by omega)).trans ((hb5.block _ hl4).trans HR4.out)
  obtain ⟨RC, hRC⟩ : ∃ C, rvc self g cap e = C := ⟨_, rfl⟩
  rw [hRC] at HG5
  have iR : (Try.prog.info? 33).map (·.size) = some RC.size := by rw [← hRC]; exact infoRV rfl
  have HRo : Hid (RC.all (·.oneCell') = true) := by rw [← hRC]; exact rvc_one _ _ _ _
  have HRs : Hid (RC.size = 3) := by rw [← hRC]; rfl
  have hzz : (#[.int .i64 0, .slice none 0 0, .int .u64 0] : Array Value).size = RC.size := HRs.out.symm
  rw [hRC]
  have HRr : Hid (RC = rvc v0.self g cap v0.cur) := by show _ = _; rw [hself.out.1, hself.out.2, hRC]
  clear hb4 hnd hl4 q0 q2 HQ1 HB3 HR3 HW3 HW4 HR4 HV3 hRC hz
  go_wp2_with (refine wpList_store_row rfl 33 _ _ rfl w4.heap.size RC rfl rfl 33 _ HZ5.out iR hzz HRo.out (Hid.out ?_))
  clear HZ5
  generalize (w4.alloc (.cells #[.int .i64 0, .slice none 0 0, .int .u64 0] 33)).setRow w4.heap.size RC = w5 at *
  generalize w4.heap.size = rb at *
  refine hid ?_
  have HF5 := hid (HFw.out w5 (HOp.out.below HG5.out.bel (Nat.le_refl _)))
  go_wp2_with fail
  refine HF5.out.mono ?_; rintro r w6 ⟨B, rfl, hB, hb6⟩
  have HG6 := hid (HG5.out.call hb6)
  have HBB := hid hB
  clear hb6 hB HF5 HG5
  cases B with
  | false =>
    go_upto_region 6 with fail
    have iRl : (Try.prog.info? 33).map (·.size) = some RC.toList.length := iR
    have HRow : Hid (w6.drew.heap[rb]? = some (.cells RC 33 (0, 0))) := by
      have h := HG6.out.row
      rw [← HRr.out] at h
      exact h
    have HRR : Hid (∀ W, W = w6.drew → W.rangeAt rb 0 RC.toList) := fun W h => by rw [h]; exact row_range HRow.out
    obtain ⟨rs, hrs⟩ : ∃ x, x = w.heap.size + 1 := ⟨_, rfl⟩
    have HRZ : Hid (w6.drew.heap[rs]? = some (.cells zrv 33 (0, 0))) := by rw [hrs]; exact HG6.out.res
    have HRk : Hid ((w6.drew.setRow rs RC).rangeAt rb 0 RC.toList) := row_range ((setRow_other _ _ _ _ (by have := HG6.out.hrb; omega)).trans HRow.out)
    have HW7 := hid (below_setRow (HG6.out.bel.drew) (show w.heap.size ≤ rs by omega) RC)
    rw [← hrs]
    clear hrs
    have u31 := Try.underlying33
    refine wp_region_held_drew (S := fun W => W.rangeAt rb 0 RC.toList) (by kernel_rfl) (HRR.out _ rfl) (fun hHeld => ?_)
    refine wpAnyH_take (i := 0) (oi := { dst := some 56, op := Op.load 33 (Operand.tmp 9), type := 33, pos := "law.go:77", after := #[{ on := 1, ground := Ground.gcOnly Departure.lateStores }], guard := none }) (v := .agg RC) rfl (by kernel_rfl) (by kernel_rfl) (by kernel_rfl) (fun _ _ _ h => h) (yieldsIf_load_arr Array.toArray_toList (by rfl) _ _ rfl _ _ rfl (fun _ h => h) u31 rfl iRl) (by assumption) ?_
    try simp only [Act.put, List.setIfInBounds_toArray, List.set_cons_zero, List.set_cons_succ]
    refine wpAnyH_take (i := 1) (oi := { dst := some 4, op := Op.assign (Operand.const (Value.pointer none)), type := 30, pos := "law.go:77", after := #[{ on := 0, ground := Ground.textOnly Departure.lateStores }], guard := none }) (v := .pointer none) rfl (by kernel_rfl) (by kernel_rfl) (by kernel_rfl) (fun _ _ _ h => h) (Or.inl ⟨by rfl, fun wS hSw => ?_⟩) (by assumption) ?_
    · clear hHeld
      clear hSw
      go_simp
    try simp only [Act.put, List.setIfInBounds_toArray, List.set_cons_zero, List.set_cons_succ]
    refine wpAnyH_ready (rs := [2]) (by kernel_rfl) (by simp) ?_
    refine AllReadyH.cons (o := { dst := none, op := Op.store 33 (Operand.tmp 5) (Operand.tmp 56), type := 0, pos := "law.go:77", after := #[{ on := 0, ground := Ground.data }, { on := 1, ground := Ground.chain }, { on := 0, ground := Ground.phase }, { on := 1, ground := Ground.phase }], guard := none }) rfl (fun K hK => ?_) AllReadyH.nil
    clear hHeld
    rw [if_pos (by rfl)]
    refine wp_store_row 33 _ _ rfl rs RC rfl rfl 33 _ HRZ.out iR (by rw [HRs.out]; rfl) HRo.out ?_
    refine hK.out _ _ HRk.out (fun hHeld => ?_)
    clear hK K
    try simp only [Act.put]
    refine wpAnyH_take (i := 3) (oi := { dst := some 6, op := Op.assign (Operand.const (Value.bool true)), type := 4, pos := "law.go:77", after := #[{ on := 2, ground := Ground.chain }, { on := 0, ground := Ground.phase }, { on := 1, ground := Ground.phase }, { on := 2, ground := Ground.phase }], guard := none }) (v := .bool true) rfl (by kernel_rfl) (by kernel_rfl) (by kernel_rfl) (fun _ _ _ h => h) (Or.inl ⟨by rfl, fun wS hSw => ?_⟩) (by assumption) ?_
    · clear hHeld
      clear hSw
      go_simp
    try simp only [Act.put, List.setIfInBounds_toArray, List.set_cons_zero, List.set_cons_succ]
    refine wpAnyH_done (by kernel_rfl) ?_ _
    clear hHeld
    go_wp2_with fail

    refine bodyPost_ret (v := .tuple #[.pointer none, .agg RC, .bool true]) (ret_b3 rfl rfl rfl rfl HRs.out (setRow_heap _ _ _ _ _ _ HRZ.out)) rfl ?_
    exact ⟨_, RC, rfl, HRs.out, HRo.out, HW7.out, .inl rfl⟩
  | true =>
    have HN40 : Hid (n ≤ 40) := HBB.out rfl
    have hnz : (n : Int) ≤ 40 := by have := HN40.out; omega
    clear HBB HRr hself hzz HRo HRs iR
    go_wp2_with fail
    go_loopw [59] (fun c59 wr => ∃ (k : Nat) (v : Vw) (g cap : Nat), c59 = .int .i64 (k : Int) ∧ k ≤ n ∧ Hid (v.Ok k) ∧ Hid (Bg w wr b rb g cap v)) (fun i _ => n - (intOf i).toNat)
    case atStart => exact ⟨0, v0, g, cap, rfl, Nat.zero_le _, HOk0.out, HG6.out⟩
    case round =>
      clear HG6 HOk0
      obtain ⟨k, v, g, cap, rfl, hk, HOk, HG⟩ := hrel
      by_cases hlt : k < n
      · have hkz : (k : Int) < (n : Int) := by omega
        have hkL : k < L.length := by have := HN.out; omega
        obtain ⟨sb, so, rfl, hbl, h1⟩ := HOp.out (fun e => by rw [e] at hkL; exact absurd hkL (Nat.not_lt_zero _))
        obtain ⟨op, hop⟩ : ∃ op, L[k] = op := ⟨_, rfl⟩
        have g0 := h1 k hkL
        rw [hop] at g0
        have HGr : Hid (wr.rangeAt sb (so + k * 265) (opCells op).toList) := fun j v hv => by
          rw [HG.out.bel.cell (p := ⟨sb, so + k * 265 + j, none⟩) hbl]; exact g0 j v hv
        have iO := infoOl op
        have iO2 := infoOp op
        have oO := opCells_one op
        have hta : (opCells op).toList.toArray = opCells op := Array.toArray_toList
        clear h1 g0 hop hkL
        have HZ := hid (heap_alloc_new wr (.cells Try.zeroCells38 38))
        have zs : Try.zeroCells38.size = (opCells op).size := by rw [opCells_size]; exact Try.zeroCells38_size
        have HBx : Hid (((wr.alloc (.cells Try.zeroCells38 38)).setRow wr.heap.size (opCells op)).heap[wr.heap.size]? = some (.cells (opCells op) 38 (0, 0))) := setRow_heap _ _ _ _ _ _ HZ.out
        have HG4 := hid (HG.out.call (below_setRow (g := wr.heap.size) (below_alloc wr (.cells Try.zeroCells38 38)) (Nat.le_refl _) (opCells op)))
        have HOb : Hid (rb < wr.heap.size) := HG.out.rv.lt
        have HDo := hid (fun W g cap h => rdo_any v.self g cap v.cur v op W rfl HOk.out.self rfl (by have := HOk.out.cur; have hb : big = 4611686018427387904 := rfl; omega) HOk.out.own h)
        have HPd := hid (fun W h => pdo_any b v op W h (HOk.out.mono (by have := HN40.out; omega)))
        obtain ⟨OC, hOC⟩ : ∃ C, opCells op = C := ⟨_, rfl⟩
        rw [hOC] at HGr iO iO2 oO hta zs HBx HG4 HDo HPd
        clear hOC
        go_upto_region 10 with (first | (refine wpList_load_mid rfl 38 _ rfl sb (so + k * 265) rfl _ _ HGr.out Try.underlying38 rfl iO ?_; rw [hta]) | (refine wpList_store_row rfl 38 _ _ rfl wr.heap.size OC rfl rfl 38 _ HZ.out iO2 zs oO ?_))
        generalize (wr.alloc (.cells Try.zeroCells38 38)).setRow wr.heap.size OC = w4 at *
        generalize wr.heap.size = ob at *
        clear HZ HGr iO oO hta zs HG
        have HRw4 := hid HG4.out.row
        have HDo4 := hid (HDo.out w4 g cap HG4.out.nd)
        obtain ⟨RC, hRC⟩ : ∃ C, rvc v.self g cap v.cur = C := ⟨_, rfl⟩
        have iR : (Try.prog.info? 33).map (·.size) = some RC.size := by rw [← hRC]; exact infoRV rfl
        have HRs : Hid (RC.size = 3) := by rw [← hRC]; rfl
        rw [hRC] at HRw4 HDo4
        clear hRC HDo
        go_wp2_with (first | (refine wpList_load_row rfl 33 _ rfl rb rfl 33 _ (0, 0) _ HRw4.out Try.underlying33 rfl iR ?_) | (refine wpList_load_row rfl 38 _ rfl ob rfl 38 _ (0, 0) _ HBx.out Try.underlying38 rfl iO2 ?_))
        refine HDo4.out.mono ?_; rintro r w5 ⟨g', cap', A, rfl, hnd, hglt, hown, hbl5⟩
        obtain ⟨x1, c1, rfl, -, -⟩ := hown.shape
        have HOw := hid hown
        have HB5 := hid hbl5
        have HG5 := hid (HG4.out.call hbl5)
        have HNd := hid hnd
        have hlw : ob < w4.heap.size := (Array.getElem?_eq_some_iff.1 HBx.out).1
        have HLw := hid hlw
        obtain ⟨R2, hR2⟩ : ∃ C, rvc v.self g' cap' (doV v op).cur = C := ⟨_, rfl⟩
        have i2 : (Try.prog.info? 33).map (·.size) = some R2.size := by rw [← hR2]; exact infoRV rfl
        have o2 : R2.all (·.oneCell') = true := by rw [← hR2]; exact rvc_one _ _ _ _
        have z2 : (#[.int .i64 0, .slice none 0 0, .int .u64 0] : Array Value).size = R2.size := by rw [← hR2]; rfl
        have z3 : RC.size = R2.size := by rw [← hR2, HRs.out]; rfl
        rw [hR2]
        have HR2 : Hid (R2 = rvc (doV v op).self g' cap' (doV v op).cur) := by show _ = _; rw [doV_self, hR2]
        have HZ6 := hid (heap_alloc_new w5 (.cells #[.int .i64 0, .slice none 0 0, .int .u64 0] 33))
        have HA6 := hid (setRow_heap _ _ _ R2 _ _ HZ6.out)
        have hb6 := below_alloc w5 (.cells #[.int .i64 0, .slice none 0 0, .int .u64 0] 33)
        have HB6 := hid (below_setRow (g := w5.heap.size) hb6 (Nat.le_refl _) R2)
        have HRb6 : Hid (((w5.alloc (.cells #[.int .i64 0, .slice none 0 0, .int .u64 0] 33)).setRow w5.heap.size R2).heap[rb]? = some (.cells RC 33 (0, 0))) :=
          (HB6.out.block _ HG5.out.rv.lt).trans ((HB5.out.block _ HG4.out.rv.lt).trans HRw4.out)
        have HOx6 : Hid ((((w5.alloc (.cells #[.int .i64 0, .slice none 0 0, .int .u64 0] 33)).setRow w5.heap.size R2).setRow rb R2).heap[ob]? = some (.cells OC 38 (0, 0))) :=
          (setRow_other _ _ _ _ (by have := HOb.out; omega)).trans ((HB6.out.block _ (by have := hbl5.size; omega)).trans ((hbl5.block _ hlw).trans HBx.out))
        have HVw : Hid (VB (((w5.alloc (.cells #[.int .i64 0, .slice none 0 0, .int .u64 0] 33)).setRow w5.heap.size R2).setRow rb R2) b v) :=
          (HG5.out.call HB6.out).vb.turn (setRow_other _ _ _ _ (fun e => row_vb_ne HG5.out.rv HG5.out.vb e.symm))
        clear hown hbl5 hnd hglt hlw hR2 hb6 HDo4
        go_upto_region 12 with (first | (refine wpList_store_row rfl 33 _ _ rfl w5.heap.size R2 rfl rfl 33 _ HZ6.out i2 z2 o2 ?_) | (refine wpList_load_row rfl 33 _ rfl w5.heap.size rfl 33 _ (0, 0) _ HA6.out Try.underlying33 rfl i2 ?_) | (refine wpList_store_row rfl 33 _ _ rfl rb R2 rfl rfl 33 _ HRb6.out i2 z3 o2 ?_))
        have HPd7 := hid (HPd.out _ HVw.out)
        generalize hw6 : (w5.alloc (.cells #[.int .i64 0, .slice none 0 0, .int .u64 0] 33)).setRow w5.heap.size R2 = w6 at *
        have HW6 := hid hw6
        clear hw6 HZ6 HA6 HRb6
        go_wp2_with (refine wpList_load_row rfl 38 _ rfl ob rfl 38 _ (0, 0) _ HOx6.out Try.underlying38 rfl iO2 ?_)
        refine HPd7.out.mono ?_; rintro r w8 ⟨A2, rfl, hown2, hv8, hon⟩
        obtain ⟨x2, c2, rfl, -, hpk2⟩ := hown2.shape
        have hOw8 : OwnP w4.heap.size w8 (.slice x1 (doA v op).length c1) (doA v op) := HOw.out.turn (fun k' h1 h2 => by
          have n1 : k' < w6.heap.size := Nat.lt_of_lt_of_le h2 HB6.out.size
          refine (hon.block k' (by simpa using n1) ?_).trans ((setRow_other _ _ _ _ ?_).trans (HB6.out.block _ h2))
          · intro e; have := HG4.out.vb.lt; omega
          · intro e; have := HG4.out.rv.lt; omega)
        obtain ⟨x3, c3, hx3, -, hpk3⟩ := hOw8.shape
        injection hx3 with hxa _ hxc
        subst hxa
        have HSm := hid (same_eq x2 x1 (doA v op) (doA v op) (doA v op).length c2 c1 w8 rfl rfl hpk2 hpk3 (by have := doA_len v op; omega))
        rw [sameL_self] at HSm
        have HG8 : Hid (Bg w w8 b rb g' cap' (doV v op)) := by
          have hon' := hon
          rw [HR2.out] at hon'
          exact HG4.out.step (HB5.out.trans (HB6.out.mono HB5.out.size)) (HNd.out.below HB6.out HNd.out.lt) hon' hv8
        obtain ⟨LN, hLN⟩ : ∃ x, (doA v op).length = x := ⟨_, rfl⟩
        rw [hLN] at HSm ⊢
        obtain ⟨CE, hCE⟩ : ∃ x, doE op = x := ⟨_, rfl⟩
        rw [hCE]
        have hce : (CE != CE) = false := by simp
        have HOk2 := hid (do_ok (o := op) HOk.out)
        clear hown2 hv8 hon hOw8 hpk2 hpk3 hLN hCE hxc HPd7 HOx6 HVw HW6 HB6 HNd HR2 HOw HB5 HG5 z2 z3 o2 i2
        go_wp2_with fail
        refine HSm.out.mono ?_; rintro r w9 ⟨rfl, hb9⟩
        have HG9 := hid (HG8.out.call hb9)
        clear hb9
        go_wp2_with fail
        go_roundw
        case rel => exact ⟨k + 1, doV v op, g', cap', by go_num, by omega, HOk2.out, HG9.out⟩
        case measure => simp [intOf]; omega
      · obtain rfl : k = n := by omega
        go_upto_region 16 with fail
        obtain ⟨RC, hRC⟩ : ∃ C, rvc v.self g cap v.cur = C := ⟨_, rfl⟩
        have iR : (Try.prog.info? 33).map (·.size) = some RC.size := by rw [← hRC]; exact infoRV rfl
        have iRl : (Try.prog.info? 33).map (·.size) = some RC.toList.length := iR
        have HRo : Hid (RC.all (·.oneCell') = true) := by rw [← hRC]; exact rvc_one _ _ _ _
        have HRs : Hid (RC.size = 3) := by rw [← hRC]; rfl
        have HRow : Hid (wr.drew.heap[rb]? = some (.cells RC 33 (0, 0))) := by
          have h := HG.out.row
          rw [hRC] at h
          exact h
        have HRC := hid hRC
        clear hRC
        have HRR : Hid (∀ W, W = wr.drew → W.rangeAt rb 0 RC.toList) := fun W h => by rw [h]; exact row_range HRow.out
        obtain ⟨rs, hrs⟩ : ∃ x, x = w.heap.size + 1 := ⟨_, rfl⟩
        have HRZ : Hid (wr.drew.heap[rs]? = some (.cells zrv 33 (0, 0))) := by rw [hrs]; exact HG.out.res
        have HRk : Hid ((wr.drew.setRow rs RC).rangeAt rb 0 RC.toList) := row_range ((setRow_other _ _ _ _ (by have := HG.out.hrb; omega)).trans HRow.out)
        have HW7 := hid (below_setRow (HG.out.bel.drew) (show w.heap.size ≤ rs by omega) RC)
        have HVv : Hid (VB (wr.drew.setRow rs RC) b v) := HG.out.vb.turn (setRow_other _ _ _ _ (fun e => row_vb_ne (show wr.heap[rs]? = _ from HRZ.out) HG.out.vb e.symm))
        have HNn : Hid (Nd (wr.drew.setRow rs RC) g v.ep v.cl) := HG.out.nd.turn (setRow_other _ _ _ _ (fun e => row_nd_ne (show wr.heap[rs]? = _ from HRZ.out) HG.out.nd e.symm))
        rw [← hrs]
        clear hrs
        have u31 := Try.underlying33
        refine wp_region_held_drew (S := fun W => W.rangeAt rb 0 RC.toList) (by kernel_rfl) (HRR.out _ rfl) (fun hHeld => ?_)
        refine wpAnyH_take (i := 0) (oi := { dst := some 88, op := Op.move (Operand.tmp 7), type := 30, pos := "law.go:87", after := #[], guard := none }) (v := .pointer (some ⟨b, 0, none⟩)) rfl (by kernel_rfl) (by kernel_rfl) (by kernel_rfl) (fun _ _ _ h => h) (Or.inl ⟨by rfl, fun wS hSw => ?_⟩) (by assumption) ?_
        · clear hHeld
          clear hSw
          go_simp
        try simp only [Act.put, List.setIfInBounds_toArray, List.set_cons_zero, List.set_cons_succ]
        refine wpAnyH_take (i := 1) (oi := { dst := some 89, op := Op.load 33 (Operand.tmp 9), type := 33, pos := "law.go:87", after := #[{ on := 2, ground := Ground.gcOnly Departure.lateStores }], guard := none }) (v := .agg RC) rfl (by kernel_rfl) (by kernel_rfl) (by kernel_rfl) (fun _ _ _ h => h) (yieldsIf_load_arr Array.toArray_toList (by rfl) _ _ rfl _ _ rfl (fun _ h => h) u31 rfl iRl) (by assumption) ?_
        try simp only [Act.put, List.setIfInBounds_toArray, List.set_cons_zero, List.set_cons_succ]
        refine wpAnyH_take (i := 2) (oi := { dst := some 4, op := Op.assign (Operand.tmp 88), type := 30, pos := "law.go:87", after := #[{ on := 0, ground := Ground.data }, { on := 0, ground := Ground.phase }, { on := 1, ground := Ground.textOnly Departure.lateStores }], guard := none }) (v := .pointer (some ⟨b, 0, none⟩)) rfl (by kernel_rfl) (by kernel_rfl) (by kernel_rfl) (fun _ _ _ h => h) (Or.inl ⟨by rfl, fun wS hSw => ?_⟩) (by assumption) ?_
        · clear hHeld
          clear hSw
          go_simp
        try simp only [Act.put, List.setIfInBounds_toArray, List.set_cons_zero, List.set_cons_succ]
        refine wpAnyH_ready (rs := [3]) (by kernel_rfl) (by simp) ?_
        refine AllReadyH.cons (o := { dst := none, op := Op.store 33 (Operand.tmp 5) (Operand.tmp 89), type := 0, pos := "law.go:87", after := #[{ on := 1, ground := Ground.data }, { on := 2, ground := Ground.chain }, { on := 0, ground := Ground.phase }, { on := 1, ground := Ground.phase }, { on := 2, ground := Ground.phase }], guard := none }) rfl (fun K hK => ?_) AllReadyH.nil
        clear hHeld
        rw [if_pos (by rfl)]
        refine wp_store_row 33 _ _ rfl rs RC rfl rfl 33 _ HRZ.out iR (by rw [HRs.out]; rfl) HRo.out ?_
        refine hK.out _ _ HRk.out (fun hHeld => ?_)
        clear hK K
        try simp only [Act.put]
        refine wpAnyH_take (i := 4) (oi := { dst := some 6, op := Op.assign (Operand.const (Value.bool true)), type := 4, pos := "law.go:87", after := #[{ on := 3, ground := Ground.chain }, { on := 0, ground := Ground.phase }, { on := 1, ground := Ground.phase }, { on := 2, ground := Ground.phase }, { on := 3, ground := Ground.phase }], guard := none }) (v := .bool true) rfl (by kernel_rfl) (by kernel_rfl) (by kernel_rfl) (fun _ _ _ h => h) (Or.inl ⟨by rfl, fun wS hSw => ?_⟩) (by assumption) ?_
        · clear hHeld
          clear hSw
          go_simp
        try simp only [Act.put, List.setIfInBounds_toArray, List.set_cons_zero, List.set_cons_succ]
        refine wpAnyH_done (by kernel_rfl) ?_ _
        clear hHeld
        go_wp2_with fail

        refine bodyPost_ret (v := .tuple #[.pointer (some ⟨b, 0, none⟩), .agg RC, .bool true]) (ret_b3 rfl rfl rfl rfl HRs.out (setRow_heap _ _ _ _ _ _ HRZ.out)) rfl ?_
        exact ⟨_, RC, rfl, HRs.out, HRo.out, HW7.out, .inr ⟨b, v, g, cap, rfl, HRC.out.symm, HVv.out, HNn.out, HOk.out.mono HN40.out, HG.out.hb⟩⟩
theorem begun_any (self : Int) (e n c : Nat) (S : Nat → Bool) (a : Option Addr) (L : List OpV) (w : World) (hn : L.length = n) (hL : OpR w a L) (hm : n ≤ 9223372036854775807) :
    Calls Try.prog 4 #[.agg (bgC self S e), .slice a n c] w (BegP w) := by
  by_cases h : newE self e = 0
  · unfold newE at h
    by_cases h1 : 0 ≤ self ∧ self < 64
    · rw [if_pos h1] at h
      by_cases h2 : e ≤ 4611686018427387904
      · obtain ⟨m, rfl⟩ := Int.eq_ofNat_of_zero_le h1.1
        exact begun_yes m e n c S a L w (by omega) h2 hn hL hm
      · rw [if_neg h2] at h; cases h
    · rw [if_neg h1] at h; cases h
  · exact begun_no self S e _ a n c w rfl h


end Go.Proofs.Ytdicjnkbmlamgab
