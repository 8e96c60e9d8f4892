/- VwNewNo, VpN. -/
import Derived.Test.YtdicjnkbmlamgabM23
import Derived.Laws.Tables
import Derived.Test.YtdicjnkbmlamgabM20
import Derived.Test.YtdicjnkbmlamgabM13
namespace Go.Proofs.Ytdicjnkbmlamgab
open Go.RowKit
open Slot

/-- the error of New -/
def newE (self : Int) (e : Nat) : Int := if 0 ≤ self ∧ self < 64 then (if e ≤ 4611686018427387904 then 0 else 1) else 150
theorem ret_z {fn : Func} {p q : Tmp} (h : fn.results = #[.cell p 33, .tmp q]) {tmps : Array Value} {w : World} {b : Nat} {v : Value} (hp : tmps.getD p undef = .pointer (some ⟨b, 0, none⟩)) (hq : tmps.getD q undef = v) (hB : w.heap[b]? = some (.cells zrv 33 (0, 0))) :
    (results fn tmps).run Try.prog w = .ok (.tuple #[.agg zrv, v]) w := by
  have hp' : tmps[p]?.getD undef = .pointer (some ⟨b, 0, none⟩) := by simpa using hp
  have hq' : tmps[q]?.getD undef = v := by simpa using hq
  simp [results, h, hp', hq', asAddr, run_loadVar_row w b 33 33 zrv (0, 0) _ hB Try.underlying33 rfl (infoRV rfl)]
theorem z_one : (#[.int .i64 0, .slice none 0 0, .int .u64 0] : Array Value).all (·.oneCell') = true := by simp [Value.oneCell']
def NewP (c : Int) (w : World) (r : Ending) (w' : World) : Prop := r = .returned (.tuple #[.agg zrv, .int .i64 c]) ∧ Below w.heap.size w w'
set_option maxHeartbeats 4000000 in
set_option maxRecDepth 100000 in
theorem rnew_no (self : Int) (e : Nat) (S : Nat → Bool) (c : Int) (w : World) (h : newE self e = c) (hc : c ≠ 0) : Calls Try.prog 14 #[.int .i64 self, .agg (cellsOf S), .int .u64 (e : Int)] w (NewP c w) := by
  have HW0 : Hid (Below w.heap.size w ((w.alloc (.cells (cellsOf S) 24)).alloc (.cells #[.int .i64 0, .slice none 0 0, .int .u64 0] 33))) := (below_alloc w _).alloc (by simp) _
  have HR0 : Hid (((w.alloc (.cells (cellsOf S) 24)).alloc (.cells #[.int .i64 0, .slice none 0 0, .int .u64 0] 33)).heap[w.heap.size + 1]? = some (.cells #[.int .i64 0, .slice none 0 0, .int .u64 0] 33 (0, 0))) := heap_alloc2_new w _ _
  have HH : Hid (newE self e = c ∧ c ≠ 0) := ⟨h, hc⟩
  clear h hc
  generalize cellsOf S = CX at *
  by_cases h0 : self < 0
  · obtain rfl : c = 150 := by rw [← HH.out.1]; unfold newE; rw [if_neg (by omega)]
    go_enter Try.func14, Try.ntmps14
    go_upto_region 1 with fail
    generalize (w.alloc (.cells CX 24)).alloc (.cells #[.int .i64 0, .slice none 0 0, .int .u64 0] 33) = w2 at *
    go_wp2_with (refine wpList_store_row rfl 33 _ _ rfl (w.heap.size + 1) #[.int .i64 0, .slice none 0 0, .int .u64 0] rfl rfl 33 _ HR0.out (infoRV rfl) rfl z_one ?_)
    refine bodyPost_ret (v := .tuple #[.agg zrv, .int .i64 150]) ?_ rfl ?_
    · exact ret_z rfl rfl rfl (setRow_heap _ _ _ _ _ _ HR0.out)
    · exact ⟨rfl, below_setRow HW0.out (by omega) _⟩
  · by_cases h1 : 63 < self
    · obtain rfl : c = 150 := by rw [← HH.out.1]; unfold newE; rw [if_neg (by omega)]
      go_enter Try.func14, Try.ntmps14
      go_upto_region 1 with fail
      generalize (w.alloc (.cells CX 24)).alloc (.cells #[.int .i64 0, .slice none 0 0, .int .u64 0] 33) = w2 at *
      go_wp2_with (refine wpList_store_row rfl 33 _ _ rfl (w.heap.size + 1) #[.int .i64 0, .slice none 0 0, .int .u64 0] rfl rfl 33 _ HR0.out (infoRV rfl) rfl z_one ?_)
      refine bodyPost_ret (v := .tuple #[.agg zrv, .int .i64 150]) ?_ rfl ?_
      · exact ret_z rfl rfl rfl (setRow_heap _ _ _ _ _ _ HR0.out)
      · exact ⟨rfl, below_setRow HW0.out (by omega) _⟩
    · have h2 : (4611686018427387904 : Int) < (e : Int) := by
        have := HH.out
        unfold newE at this
        rw [if_pos (by omega)] at this
        by_cases c : e ≤ 4611686018427387904
        · rw [if_pos c] at this; exact absurd this.1.symm this.2
        · omega
      obtain rfl : c = 1 := by rw [← HH.out.1]; unfold newE; rw [if_pos (by omega), if_neg (by omega)]
      go_enter Try.func14, Try.ntmps14
      go_upto_region 1 with fail
      generalize (w.alloc (.cells CX 24)).alloc (.cells #[.int .i64 0, .slice none 0 0, .int .u64 0] 33) = w2 at *
      go_wp2_with (refine wpList_store_row rfl 33 _ _ rfl (w.heap.size + 1) #[.int .i64 0, .slice none 0 0, .int .u64 0] rfl rfl 33 _ HR0.out (infoRV rfl) rfl z_one ?_)
      refine bodyPost_ret (v := .tuple #[.agg zrv, .int .i64 1]) ?_ rfl ?_
      · exact ret_z rfl rfl rfl (setRow_heap _ _ _ _ _ _ HR0.out)
      · exact ⟨rfl, below_setRow HW0.out (by omega) _⟩

end Go.Proofs.Ytdicjnkbmlamgab

namespace Go.Proofs.Ytdicjnkbmlamgab
open Go.RowKit
open Slot

theorem wpList_built2 {P : Program} {ops : Array Oper} {rest : List Oper} {o : Oper} {a : Act} {w : World} {Q : Exit → Act → World → Prop} (hg : o.guard = none) (t : TypeId) (i j : Nat) (x y : Operand) (ho : o.op = .build t #[(i, x), (j, y)])
    (u v : Value) (hx : a.eval x = u) (hy : a.eval y = v) (C : Array Value) (hb : P.built t [(i, u), (j, v)] = some C) (h : wpList P ops Q rest (a.put o.dst (.agg C)) w) : wpList P ops Q (o :: rest) a w := by
  have e : (#[(i, x), (j, y)].map fun (i, x) => (i, a.eval x)).toList = [(i, u), (j, v)] := by simp [hx, hy]
  exact wpList_build hg t _ ho (by rw [e, hb]; rfl) (by rw [e, hb]; exact h)
theorem built_view {Z : Array Value} (hZ : Try.t68.zero = some (.agg Z)) (hs : Z.size = 16450) (s e : Int) : Try.prog.built 68 [(0, .int .i64 s), (3, .int .u64 e)] = some ((Z.setIfInBounds 0 (.int .i64 s)).setIfInBounds 16449 (.int .u64 e)) := by
  have hi : Try.prog.info? 68 = some Try.t68 := by kernel_rfl
  obtain ⟨fs, hu, hp⟩ : ∃ fs, Try.prog.underlying 68 = some (.struct fs) ∧ fs.toList.mapM (fun f => (Try.prog.info? f.type).map fun i => (f.offset, i.size)) = some [(0, 1), (1, 16384), (16385, 64), (16449, 1)] := ⟨_, Try.underlying68, by kernel_rfl⟩
  unfold Program.built
  rw [hi, hu]
  simp only [hZ, hp]
  show Instr.fill _ Z _ = _
  simp [Instr.fill, Value.cells, hs]
/-- a view under way: the first k slots are nobody's -/
def VN (w : World) (b self e k : Nat) : Prop := ∃ C : Array Value, w.heap[b]? = some (.cells C 68 (0, 0)) ∧ C.size = 16450 ∧ C[0]? = some (.int .i64 (self : Int)) ∧ (∀ s, s < k → C[1 + s]? = some (.int .i8 (-1))) ∧ (∀ n, n < 64 → C[16385 + n]? = some (.int .u64 0)) ∧ C[16449]? = some (.int .u64 (e : Int))
theorem VN.lt {w : World} {b self e k : Nat} (h : VN w b self e k) : b < w.heap.size := by
  obtain ⟨C, h1, _⟩ := h
  exact (Array.getElem?_eq_some_iff.1 h1).1
theorem VN.cell {w : World} {b self e k : Nat} (h : VN w b self e k) {s : Nat} (hs : s < 16384) : ∃ x, w.cell? ⟨b, 1 + s, none⟩ = some x := by
  obtain ⟨C, h1, h2, _⟩ := h
  refine ⟨C[1 + s]'(by omega), ?_⟩
  rw [cell_of_row w b _ _ _ _ h1, Array.getElem?_eq_getElem (by omega)]
theorem VN.frozen {w : World} {b self e k : Nat} (h : VN w b self e k) (j : Nat) : w.frozen? ⟨b, j, none⟩ = false := by
  obtain ⟨C, h1, _⟩ := h
  simp [World.frozen?, h1]
theorem VN.step {w : World} {b self e k : Nat} (h : VN w b self e k) (hk : k < 16384) : VN (w.setCell ⟨b, 1 + k, none⟩ (.int .i8 (-1))) b self e (k + 1) := by
  obtain ⟨C, h1, h2, h3, h4, h5, h6⟩ := h
  refine ⟨_, heap_setCell_same w b (1 + k) C _ _ h1, by rw [Array.size_setIfInBounds]; exact h2, set_ne (by omega) h3, fun t ht => ?_, fun m hm => set_ne (by omega) (h5 m hm), set_ne (by omega) h6⟩
  by_cases e : t = k
  · rw [e]; exact set_eq (by omega)
  · exact set_ne (by omega) (h4 t (by omega))
/-- a view of which nothing is known -/
def bareV (self e : Nat) : Vw := ⟨self, fun _ => 0, fun _ => 64, e⟩
theorem VN.done {w : World} {b self e : Nat} (h : VN w b self e 16384) : VB w b (bareV self e) := by
  obtain ⟨C, h1, h2, h3, h4, h5, h6⟩ := h
  exact ⟨C, h1, h2, h3, fun s hs => h4 s hs, fun n hn => h5 n hn, h6⟩
theorem new_end {w : World} {b self e : Nat} {S : Nat → Bool} (h : VB w b (bl3 (bareV self e) self e (slots S))) : VB w b (newV self S e) := by
  have := bl3_end (p := ⟨1, 0, 0, e, e, S⟩) h
  refine this.congr rfl (fun s _ => ?_) (fun n _ => rfl) rfl
  show (if S s then self else 64) = (if S s then (if (64 = 64 ∨ 64 = self ∨ 0 < e) then self else 64) else (if 64 = self then 64 else 64))
  cases S s
  · simp
  · simp
theorem vn_new {Z : Array Value} {w : World} {self e : Nat} (hs : Z.size = 16450) (hz : ∀ n, n < 65 → Z[16385 + n]? = some (.int .u64 0)) :
    VN (w.alloc (.cells ((Z.setIfInBounds 0 (.int .i64 (self : Int))).setIfInBounds 16449 (.int .u64 (e : Int))) 68)) w.heap.size self e 0 := by
  refine ⟨_, heap_alloc_new w _, by simp [hs], ?_, fun s h => absurd h (Nat.not_lt_zero s), fun n hn => ?_, ?_⟩
  · rw [Array.getElem?_setIfInBounds_ne (by decide)]
    exact Array.getElem?_setIfInBounds_self_of_lt (by rw [hs]; decide)
  · rw [Array.getElem?_setIfInBounds_ne (by omega), Array.getElem?_setIfInBounds_ne (by omega)]
    exact hz n (by omega)
  · exact Array.getElem?_setIfInBounds_self_of_lt (by rw [Array.size_setIfInBounds, hs]; decide)
def PNewP (self e : Nat) (S : Nat → Bool) (w : World) (r : Ending) (w' : World) : Prop := ∃ b, r = .returned (.tuple #[.pointer (some ⟨b, 0, none⟩), .int .i64 0]) ∧ VB w' b (newV self S e) ∧ w.heap.size ≤ b ∧ Below w.heap.size w w'
set_option maxHeartbeats 4000000 in
set_option maxRecDepth 100000 in
theorem pnew_yes (self e : Nat) (S : Nat → Bool) (w : World) (hs : self < 64) (he : e ≤ 4611686018427387904) : Calls Try.prog 13 #[.int .i64 (self : Int), .agg (cellsOf S), .int .u64 (e : Int)] w (PNewP self e S w) := by
  obtain ⟨Z0, hZ, hl, c, hc⟩ := zview
  obtain ⟨Z, z1, z2, z3, z4⟩ := zview_any
  have hz0 : (zeroValue 68).run Try.prog w = .ok (.agg Z0.toArray) w := by
    unfold zeroValue
    rw [Sem.run_bind, Try.typeInfo68]
    simp only [Result.andThen_ok, hZ]
    rfl
  have hZe : Z0.toArray = Z := by
    have := hz0.symm.trans (z4 w)
    simpa using this
  rw [hZe] at hZ
  have hbv := built_view hZ z1 (self : Int) (e : Int)
  have HVn := hid (fun W : World => vn_new (w := W) (self := self) (e := e) z1 z2)
  have HNd := hid (isnode_any (self : Int))
  have hnd : nodeB (self : Int) = true := decide_eq_true (by omega)
  rw [hnd] at HNd
  have hez : ¬ (4611686018427387904 : Int) < (e : Int) := by omega
  have HCs0 := hid (heap_alloc_new w (.cells (cellsOf S) 24))
  have HW0 := hid (below_alloc w (.cells (cellsOf S) 24))
  have HSz : Hid ((w.alloc (.cells (cellsOf S) 24)).heap.size = w.heap.size + 1) := by show _ = _; simp
  have HBl := hid (fun (b : Nat) (W : World) (h : VB W b (bareV self e)) => believe_any b self e (bareV self e) S W h hs (fun _ => Nat.le_refl _))
  have iC : (Try.prog.info? 24).map (·.size) = some (cellsOf S).size := infoBits S
  have HEnd := hid (fun (b : Nat) (W : World) => new_end (w := W) (b := b) (self := self) (e := e) (S := S))
  generalize hV : (Z.setIfInBounds 0 (.int .i64 (self : Int))).setIfInBounds 16449 (.int .u64 (e : Int)) = CV at hbv HVn
  generalize cellsOf S = CS at *
  have hsz : (self : Int) < 64 := by omega
  clear hz0 hZe hZ hl hc z1 z2 z3 z4 hV hs he hnd
  go_enter Try.func13, Try.ntmps13
  go_upto_region 1 with fail
  generalize w.alloc (.cells CS 24) = w1 at *
  go_wp2_with fail
  refine (HNd.out _).mono ?_; rintro r w2 ⟨rfl, rfl⟩
  go_wp2_with (refine wpList_built2 rfl 68 0 3 _ _ rfl (.int .i64 (self : Int)) (.int .u64 (e : Int)) rfl rfl CV hbv ?_)
  have HB3 := hid (below_alloc w2 (.cells CV 68))
  have HV3 := hid (HVn.out w2)
  have HCs3 := hid ((HB3.out.block _ (by have := HSz.out; omega)).trans HCs0.out)
  have HW3 := hid (HW0.out.trans (HB3.out.mono HW0.out.size))
  have HBd : Hid (w.heap.size ≤ w2.heap.size) := HW0.out.size
  have HBn : Hid (w.heap.size < w2.heap.size) := by have := HSz.out; show _ < _; omega
  clear HB3 HCs0 HW0 HVn hbv HSz
  generalize w2.alloc (.cells CV 68) = w3 at *
  generalize w2.heap.size = b at *
  go_wp2_with fail
  go_loopw [21] (fun c wr => ∃ k : Nat, c = .int .i64 (k : Int) ∧ k ≤ 16384 ∧ Hid (VN wr b self e k) ∧ Hid (wr.heap[w.heap.size]? = some (.cells CS 24 (0, 0))) ∧ Hid (Below w.heap.size w wr)) (fun c _ => 16384 - (intOf c).toNat)
  case atStart => exact ⟨0, rfl, Nat.zero_le _, HV3.out, HCs3.out, HW3.out⟩
  case round =>
    obtain ⟨k, rfl, hk, HVk, HCk, HWk⟩ := hrel
    by_cases hlt : k < 16384
    · have hkz : (k : Int) < 16384 := by omega
      obtain ⟨x, cO⟩ := HVk.out.cell hlt
      have fO := HVk.out.frozen (1 + k)
      have HV4 := hid (HVk.out.step hlt)
      have HC4 : Hid ((wr.setCell ⟨b, 1 + k, none⟩ (.int .i8 (-1))).heap[w.heap.size]? = some (.cells CS 24 (0, 0))) := (Below.heap_setCell _ _ _ _ (by show w.heap.size ≠ b; have := HBn.out; omega)).trans HCk.out
      have HW4 := hid (HWk.out.setCell (p := ⟨b, 1 + k, none⟩) (by show w.heap.size ≤ b; exact HBd.out) (.int .i8 (-1)))
      go_wp2_with fail
      go_roundw
      case rel => exact ⟨k + 1, by go_num, by omega, HV4.out, HC4.out, HW4.out⟩
      case measure => simp [intOf]; omega
    · obtain rfl : k = 16384 := by omega
      have HV5 := hid HVk.out.done
      go_wp2_with (refine wpList_load_row rfl 24 _ rfl w.heap.size rfl 24 _ (0, 0) _ HCk.out Try.underlying24 rfl iC (Hid.out ?_))
      refine hid ?_
      go_wp2_with fail
      refine (HBl.out b _ HV5.out).mono ?_; rintro r w6 ⟨⟨y, rfl⟩, hv, ho⟩
      have HV6 := hid (HEnd.out b _ hv)
      have HW6 := hid (HWk.out.trans (ho.below HBd.out HWk.out.size))
      clear hv ho
      go_wp2_with fail
      go_ret2
      exact ⟨b, rfl, HV6.out, HBd.out, HW6.out⟩

end Go.Proofs.Ytdicjnkbmlamgab
