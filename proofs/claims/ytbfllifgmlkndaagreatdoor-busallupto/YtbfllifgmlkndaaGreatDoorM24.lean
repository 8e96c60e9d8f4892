/- VwRefA, VwSame. -/
import Derived.Test.YtbfllifgmlkndaaGreatDoorM23
import Derived.Deep.QuietTactic
import Derived.Lib.QuietBelow
namespace Go.Proofs.YtbfllifgmlkndaaGreatDoor
open Go.RowKit
open Slot

def placesN : Array (Nat × Nat) := #[(0, 1), (1, 256)]
theorem builtN_any (parts : List (Nat × Value)) : Tryz.prog.built 79 parts = Instr.fill (fun i => placesN[i]?) (#[.int .u64 0] ++ Array.replicate 256 (.int .u64 0)) parts := by kernel_rfl
theorem build_node (e : Nat) (S : Nat → Bool) (w : World) : (Instr.build 79 #[(0, .int .u64 (e : Int)), (1, .agg (cellsOf S))]).run Tryz.prog w = .ok (.agg (ndCells e S)) w := by
  refine run_build w _ _ _ ?_
  rw [builtN_any]
  have := fill_app (fun i => placesN[i]?) [(0, .int .u64 (e : Int))] [(1, .agg (cellsOf S))] (#[.int .u64 0] ++ Array.replicate 256 (.int .u64 0))
  rw [List.cons_append, List.nil_append] at this
  refine this.trans ?_
  have h0 : Instr.fill (fun i => placesN[i]?) (#[.int .u64 0] ++ Array.replicate 256 (.int .u64 0)) [(0, .int .u64 (e : Int))] = some (#[.int .u64 (e : Int)] ++ Array.replicate 256 (.int .u64 0)) := by kernel_rfl
  rw [h0, Option.bind_some]
  have h1 : placesN[1]? = some (1, 256) := rfl
  simp only [Instr.fill, h1, Value.cells, cellsOf_size, Array.size_append, Array.size_replicate]
  rw [if_neg (by simp)]
  refine congrArg some ?_
  exact fill_row #[.int .u64 (e : Int)] (Array.replicate 256 (.int .u64 0)) (cellsOf S) (by rw [cellsOf_size]; simp)
theorem nsize : Tryz.zeroCells79.size = 257 := by rw [zeroNd, ndCells_size]
set_option maxRecDepth 100000 in
theorem node_form (e : Nat) (S : Nat → Bool) : Array.foldl (fun cs (x : Value × Nat) => cs.setIfInBounds (1 + x.snd) x.fst) (Tryz.zeroCells79.setIfInBounds 0 (Value.int IntKind.u64 e)) (cellsOf S).zipIdx 0 (cellsOf S).size = ndCells e S := by
  have hs : (cellsOf S).size = 256 := cellsOf_size S
  have hz := nsize
  have a := fun w : World => build_node e S w
  simp only [go_sem, hs] at a
  simp [hz] at a
  exact a
theorem new_nd {w : World} {g self e : Nat} {S : Nat → Bool} (hs : self < 64) (h : Nd w g (fun m => if m = self then e else 0) (fun m => if m = self then S else fun _ => false)) : Nd w g (newV self S e).ep (newV self S e).cl := by
  refine h.congr (fun _ _ => rfl) (fun m i hm _ => word_congr fun k _ => ?_)
  generalize 64 * i + k = t
  show ((if S t then self else 64) == m) = (if m = self then S else fun _ => false) t
  by_cases em : m = self
  · rw [if_pos em, em]
    cases S t
    · simp; omega
    · simp
  · rw [if_neg em, beq_eq_false_iff_ne]
    split <;> omega
set_option maxHeartbeats 4000000 in
set_option maxRecDepth 100000 in
theorem new_core (self e : Nat) (CX NC ZN : Array Value) (w : World) (hs : self < 64) (he : e ≤ 4611686018427387904) (hc : CX.size = 256) (hn : NC.size = 257) (on : NC.all (·.oneCell') = true) (hzn : Tryz.zeroCells79 = ZN) (zn : ZN.size = 257)
    (hbu : Array.foldl (fun cs (x : Value × Nat) => cs.setIfInBounds (1 + x.snd) x.fst) (ZN.setIfInBounds 0 (Value.int IntKind.u64 e)) CX.zipIdx 0 256 = NC)
    (E : Nat → Nat) (K : Nat → Nat → Bool) (hst : ∀ (W : World) (g : Nat), Nd W g (fun _ => 0) (fun _ _ => false) → W.there g (self * 257) 257 ∧ Nd (W.setCells g (self * 257) NC.toList) g E K) :
    Calls Tryz.prog 8 #[.int .i64 (self : Int), .agg CX, .int .u64 (e : Int)] w fun r w' => ∃ g cap, r = .returned (.tuple #[.agg (rvc self g cap e), .int .i64 0]) ∧ Nd w' g E K ∧ w.heap.size ≤ g ∧ Below w.heap.size w w' := by
  have HB0 : Hid (((w.alloc (.cells CX 24)).alloc (.cells #[.int .i64 0, .slice none 0 0, .int .u64 0] 34)).heap[w.heap.size]? = some (.cells CX 24 (0, 0))) := heap_alloc2_old w _ _
  have HR0 : Hid (((w.alloc (.cells CX 24)).alloc (.cells #[.int .i64 0, .slice none 0 0, .int .u64 0] 34)).heap[w.heap.size + 1]? = some (.cells #[.int .i64 0, .slice none 0 0, .int .u64 0] 34 (0, 0))) := heap_alloc2_new w _ _
  have HW0 : Hid (Below w.heap.size w ((w.alloc (.cells CX 24)).alloc (.cells #[.int .i64 0, .slice none 0 0, .int .u64 0] 34))) := (below_alloc w _).alloc (by simp) _
  have HSZ : Hid (((w.alloc (.cells CX 24)).alloc (.cells #[.int .i64 0, .slice none 0 0, .int .u64 0] 34)).heap.size = w.heap.size + 2) := by show _ = _; simp
  have hmk := fun u => make_nodes u
  have HM := hid nd_made
  have HST := hid hst
  have iC : (Tryz.prog.info? 24).map (·.size) = some CX.size := by rw [hc]; kernel_rfl
  have iN : (Tryz.prog.info? 79).map (·.size) = some NC.size := infoNode hn
  have hze : ¬ ZN = #[] := fun x => by rw [x] at zn; cases zn
  have h1 : ¬ (self : Int) < 0 := by omega
  have h2 : ¬ (63 : Int) < (self : Int) := by omega
  have h3 : ¬ (4611686018427387904 : Int) < (e : Int) := by omega
  have h4 : (self : Int) < 64 := by omega
  have ON := hid on
  clear hst on
  generalize madeN = MN at *
  go_enter Tryz.func8, Tryz.ntmps8
  go_upto_region 1 with fail
  generalize (w.alloc (.cells CX 24)).alloc (.cells #[.int .i64 0, .slice none 0 0, .int .u64 0] 34) = w2 at *
  go_upto_region 6 with fail
  have HG : Hid (w.heap.size + 2 ≤ w2.heap.size) := by have := HSZ.out; show _ ≤ _; omega
  have hb3 : Below w2.heap.size w2 ((w2.alloc (.cells MN 79)).alloc (.cells #[.int .i64 (self : Int), .slice (some ⟨w2.heap.size, 0, none⟩) 64 64, .int .u64 (e : Int)] 34)) := (below_alloc w2 _).alloc (by simp) _
  have HV3 : Hid (RVb ((w2.alloc (.cells MN 79)).alloc (.cells #[.int .i64 (self : Int), .slice (some ⟨w2.heap.size, 0, none⟩) 64 64, .int .u64 (e : Int)] 34)) (w2.heap.size + 1) self w2.heap.size 64 e) := heap_alloc2_new w2 _ _
  have HN3 : Hid (Nd ((w2.alloc (.cells MN 79)).alloc (.cells #[.int .i64 (self : Int), .slice (some ⟨w2.heap.size, 0, none⟩) 64 64, .int .u64 (e : Int)] 34)) w2.heap.size (fun _ => 0) (fun _ _ => false)) := (HM.out w2).below (below_alloc _ _) (by simp)
  have HB3 := hid ((hb3.block w.heap.size (by have := HSZ.out; omega)).trans HB0.out)
  have HR3 := hid ((hb3.block (w.heap.size + 1) (by have := HSZ.out; omega)).trans HR0.out)
  have HW3 := hid (HW0.out.trans (hb3.mono HW0.out.size))
  generalize (w2.alloc (.cells MN 79)).alloc (.cells #[.int .i64 (self : Int), .slice (some ⟨w2.heap.size, 0, none⟩) 64 64, .int .u64 (e : Int)] 34) = w3 at HV3 HN3 HB3 HR3 HW3 ⊢
  generalize w2.heap.size = g at HG HV3 HN3 ⊢
  clear hb3 HB0 HR0 HW0 HSZ hmk HM
  obtain ⟨c0, c1, c2⟩ := rv_cells HV3.out
  obtain ⟨t0, t1⟩ := HST.out _ _ HN3.out
  have HT : Hid (w3.there g (self * 257) NC.size) := by rw [hn]; exact t0
  have HN4 := hid t1
  clear t0 t1 HST
  go_wp2_with (refine wpList_load_row rfl 24 _ rfl w.heap.size rfl 24 _ (0, 0) _ HB3.out Tryz.underlying24 rfl iC (Hid.out ?_))
  refine hid ?_
  go_wp2_with (refine wpList_store_mid rfl 79 _ _ rfl g (self * 257) NC rfl rfl HT.out iN ON.out (Hid.out ?_))
  refine hid ?_
  have HV4 : Hid (RVb (w3.setCells g (self * 257) NC.toList) (g + 1) self g 64 e) := (setCells_other (by omega) _ _ _).trans HV3.out
  have HR4 : Hid ((w3.setCells g (self * 257) NC.toList).heap[w.heap.size + 1]? = some (.cells #[.int .i64 0, .slice none 0 0, .int .u64 0] 34 (0, 0))) := (setCells_other (by have := HG.out; omega) _ _ _).trans HR3.out
  have HW4 := hid (setCells_below (b := g) (by have := HG.out; omega) NC.toList (self * 257) w3 HW3.out)
  generalize w3.setCells g (self * 257) NC.toList = w4 at HV4 HR4 HW4 HN4 ⊢
  clear c0 c1 c2 HV3 HN3 HB3 HR3 HW3 HT
  go_wp2_with (refine wpList_load_row rfl 34 _ rfl (g + 1) rfl 34 _ (0, 0) _ HV4.out Tryz.underlying34 rfl (infoRV rfl) (Hid.out ?_))
  refine hid ?_
  go_wp2_with (refine wpList_store_row rfl 34 _ _ rfl (w.heap.size + 1) (rvc self g 64 e) rfl rfl 34 _ HR4.out (infoRV rfl) rfl (rvc_one _ _ _ _) (Hid.out ?_))
  refine hid ?_
  go_wp2_with fail
  refine bodyPost_ret (v := .tuple #[.agg (rvc self g 64 e), .int .i64 0]) ?_ rfl ?_
  · exact ret_rv2 rfl rfl rfl (setRow_heap _ _ _ _ _ _ HR4.out)
  · exact ⟨g, 64, rfl, HN4.out.turn (setRow_other w4 (w.heap.size + 1) g _ (by have := HG.out; omega)), by have := HG.out; omega, below_setRow HW4.out (by omega) _⟩
/-- the document's New, of a node and an epoch that may be -/
theorem rnew_yes (self e : Nat) (S : Nat → Bool) (w : World) (hs : self < 64) (he : e ≤ 4611686018427387904) : Calls Tryz.prog 8 #[.int .i64 (self : Int), .agg (cellsOf S), .int .u64 (e : Int)] w fun r w' => ∃ g cap, r = .returned (.tuple #[.agg (rvc self g cap e), .int .i64 0]) ∧ Nd w' g (newV self S e).ep (newV self S e).cl ∧ w.heap.size ≤ g ∧ Below w.heap.size w w' := by
  have hbu := node_form e S
  rw [zeroNd, cellsOf_size] at hbu
  exact new_core self e (cellsOf S) (ndCells e S) (ndCells 0 fun _ => false) w hs he (cellsOf_size S) (ndCells_size e S) (ndCells_one e S) zeroNd (ndCells_size _ _) hbu _ _ (fun W g h => ⟨h.there hs, new_nd hs (nd_store h hs e S)⟩)

end Go.Proofs.YtbfllifgmlkndaaGreatDoor

namespace Go.Proofs.YtbfllifgmlkndaaGreatDoor
open Go.RowKit
open Slot

/-- a row of packets that may be read -/
def Pks (w : World) (a : Option Addr) (L : List Pk) : Prop := L ≠ [] → ∃ b o, a = some ⟨b, o, none⟩ ∧ b < w.heap.size ∧ ∀ j (h : j < L.length), w.rangeAt b (o + j * 261) (pkCells L[j]).toList
theorem Pks.below {w w' : World} {n : Nat} {a : Option Addr} {L : List Pk} (h : Pks w a L) (hb : Below n w w') (hn : ∀ x, a = some x → x.block < n) : Pks w' a L := fun hne => by
  obtain ⟨b, o, rfl, h1, h2⟩ := h hne
  refine ⟨b, o, rfl, Nat.lt_of_lt_of_le h1 hb.size, fun j hj i v hv => ?_⟩
  rw [hb.cell (p := ⟨b, o + j * 261 + i, none⟩) (hn ⟨b, o, none⟩ rfl)]
  exact h2 j hj i v hv
theorem infoPl (p : Pk) : (Tryz.prog.info? 53).map (·.size) = some (pkCells p).toList.length := by rw [Array.length_toList]; exact infoPk p
end Go.Proofs.YtbfllifgmlkndaaGreatDoor
