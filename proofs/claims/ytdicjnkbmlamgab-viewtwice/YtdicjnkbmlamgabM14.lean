/- VwRef1, VwRef2. -/
import Derived.Deep.DeepCutAuto
import Derived.Test.YtdicjnkbmlamgabM09
import Derived.Test.YtdicjnkbmlamgabM12
namespace Go.Proofs.Ytdicjnkbmlamgab
open Go.RowKit
open Slot

theorem infoRV {C : Array Value} (h : C.size = 3) : (Try.prog.info? 33).map (·.size) = some C.size := by rw [h]; kernel_rfl
theorem rvc_size (self g cap cur : Nat) : (rvc self g cap cur).size = 3 := rfl
theorem rvc_one (self g cap cur : Nat) : (rvc self g cap cur).all (·.oneCell') = true := by simp [rvc, Value.oneCell']
def zrv : Array Value := #[.int .i64 0, .slice none 0 0, .int .u64 0]
/-- a document's view in a block of its own -/
def RVb (w : World) (b self g cap cur : Nat) : Prop := w.heap[b]? = some (.cells (rvc self g cap cur) 33 (0, 0))
theorem RVb.lt {w : World} {b self g cap cur : Nat} (h : RVb w b self g cap cur) : b < w.heap.size := (Array.getElem?_eq_some_iff.1 h).1
theorem RVb.below {w w' : World} {n b self g cap cur : Nat} (h : RVb w b self g cap cur) (hb : Below n w w') (hn : b < n) : RVb w' b self g cap cur := (hb.block b hn).trans h
theorem RVb.only {w w' : World} {c b self g cap cur : Nat} (h : RVb w b self g cap cur) (hb : Only c w w') (hn : b ≠ c) : RVb w' b self g cap cur := (hb.block b h.lt hn).trans h
theorem RVb.frozen {w : World} {b self g cap cur : Nat} (h : RVb w b self g cap cur) (j : Nat) : w.frozen? ⟨b, j, none⟩ = false := by
  unfold RVb at h
  simp [World.frozen?, h]
theorem RVb.setCur {w : World} {b self g cap cur : Nat} (h : RVb w b self g cap cur) (x : Nat) : RVb (w.setCell ⟨b, 2, none⟩ (.int .u64 (x : Int))) b self g cap x := heap_setCell_same w b 2 _ _ _ h
theorem ret_rv {fn : Func} {p : Tmp} (h : fn.results = #[.cell p 33]) {tmps : Array Value} {w : World} {b self g cap cur : Nat} (hp : tmps.getD p undef = .pointer (some ⟨b, 0, none⟩)) (hB : RVb w b self g cap cur) :
    (results fn tmps).run Try.prog w = .ok (.agg (rvc self g cap cur)) w :=
  results_cell_row h tmps w b 33 (rvc self g cap cur) (0, 0) _ hp hB Try.underlying33 rfl (infoRV rfl)
theorem Nd.only {w w' : World} {c g : Nat} {E : Nat → Nat} {K : Nat → Nat → Bool} (h : Nd w g E K) (hb : Only c w w') (hn : g ≠ c) : Nd w' g E K := h.turn (hb.block g h.lt hn)
theorem Only.setRowNew {b c : Nat} {a w : World} (h : Only b a w) (hc : a.heap.size ≤ c) (C : Array Value) : Only b a (w.setRow c C) :=
  ⟨h.os, h.tape, h.output, by simpa using h.size, fun k hk hne => (setRow_other w c k C (by omega)).trans (h.block k hk hne)⟩
theorem Only.setCellNew {b c j : Nat} {a w : World} (h : Only b a w) (hc : a.heap.size ≤ c) (v : Value) : Only b a (w.setCell ⟨c, j, none⟩ v) :=
  ⟨h.os, h.tape, h.output, by simpa using h.size, fun k hk hne => (Below.heap_setCell _ _ _ _ (by show k ≠ c; omega)).trans (h.block k hk hne)⟩
set_option maxHeartbeats 2000000 in
set_option maxRecDepth 100000 in
/-- the document's raise -/
theorem rraise_any (self g cap cur : Nat) (E : Nat → Nat) (K : Nat → Nat → Bool) (w : World) (hs : self < 64) (hc : cur < 9223372036854775808) (hN : Nd w g E K) : Calls Try.prog 43 #[.agg (rvc self g cap cur)] w fun e w' => e = .returned (.agg (rvc self g cap (cur + 1))) ∧ Nd w' g (fun m => if m = self then cur + 1 else E m) K ∧ Only g w w' := by
  have hg := hN.lt
  have HB0 : Hid (RVb ((w.alloc (.cells (rvc self g cap cur) 33)).alloc (.cells #[.int .i64 0, .slice none 0 0, .int .u64 0] 33)) w.heap.size self g cap cur) := heap_alloc2_old w _ _
  have HR0 : Hid (((w.alloc (.cells (rvc self g cap cur) 33)).alloc (.cells #[.int .i64 0, .slice none 0 0, .int .u64 0] 33)).heap[w.heap.size + 1]? = some (.cells #[.int .i64 0, .slice none 0 0, .int .u64 0] 33 (0, 0))) := heap_alloc2_new w _ _
  have HO0 : Hid (Only g w ((w.alloc (.cells (rvc self g cap cur) 33)).alloc (.cells #[.int .i64 0, .slice none 0 0, .int .u64 0] 33))) := ((Only.refl g w).alloc _).alloc _
  have HN0 : Hid (Nd ((w.alloc (.cells (rvc self g cap cur) 33)).alloc (.cells #[.int .i64 0, .slice none 0 0, .int .u64 0] 33)) g E K) := hN.below ((below_alloc w _).alloc (by simp) _) hg
  have HRC : Hid (rvc self g cap cur = #[.int .i64 (self : Int), .slice (some ⟨g, 0, none⟩) 64 cap, .int .u64 (cur : Int)]) := rfl
  obtain ⟨c0, c1, c2⟩ := rv_cells HB0.out
  have f2 := HB0.out.frozen 2
  have ce := HN0.out.ep hs
  have fe := HN0.out.frozen (self * 257)
  have hne : ¬ g = w.heap.size := by omega
  have hne1 : ¬ g = w.heap.size + 1 := by omega
  have hsz : (self : Int) < 64 := by omega
  obtain ⟨M, hM⟩ : ∃ M, M = cur + 1 := ⟨_, rfl⟩
  have hM1 : (cur : Int) + 1 = (M : Int) := by omega
  have hM2 : IntKind.u64.wrap (M : Int) = M := by rw [IntKind.wrap_u64]; omega
  rw [← hM]
  have HM := hid hM
  clear hM
  generalize rvc self g cap cur = RC at *
  go_enter Try.func43, Try.ntmps43
  go_upto_region 1 with fail
  have HO1 := hid (Only.setCell (Only.setCellNew (c := w.heap.size) (j := 2) HO0.out (Nat.le_refl _) (.int .u64 (M : Int))) (self * 257) (.int .u64 (M : Int)))
  have HN1 := hid ((HN0.out.turn (w' := ((w.alloc (.cells RC 33)).alloc (.cells #[.int .i64 0, .slice none 0 0, .int .u64 0] 33)).setCell ⟨w.heap.size, 2, none⟩ (.int .u64 (M : Int))) (Below.heap_setCell _ _ _ _ hne)).setE hs M)
  have HR1 : Hid (((((w.alloc (.cells RC 33)).alloc (.cells #[.int .i64 0, .slice none 0 0, .int .u64 0] 33)).setCell ⟨w.heap.size, 2, none⟩ (.int .u64 (M : Int))).setCell ⟨g, self * 257, none⟩ (.int .u64 (M : Int))).heap[w.heap.size + 1]? = some (.cells #[.int .i64 0, .slice none 0 0, .int .u64 0] 33 (0, 0))) :=
    (Below.heap_setCell _ _ _ _ (by show w.heap.size + 1 ≠ g; omega)).trans ((Below.heap_setCell _ _ _ _ (by show w.heap.size + 1 ≠ w.heap.size; omega)).trans HR0.out)
  generalize (w.alloc (.cells RC 33)).alloc (.cells #[.int .i64 0, .slice none 0 0, .int .u64 0] 33) = w2 at *
  go_wp2_with (refine wpList_store_row rfl 33 _ _ rfl (w.heap.size + 1) (rvc self g cap M) rfl rfl 33 _ HR1.out (infoRV rfl) rfl (rvc_one _ _ _ _) (Hid.out ?_))
  refine hid ?_
  generalize hX : (w2.setCell ⟨w.heap.size, 2, none⟩ (.int .u64 (M : Int))).setCell ⟨g, self * 257, none⟩ (.int .u64 (M : Int)) = w3 at *
  clear hX
  go_wp2_with fail
  refine bodyPost_ret (v := .agg (rvc self g cap M)) ?_ rfl ?_
  · exact ret_rv rfl rfl (setRow_heap _ _ _ _ _ _ HR1.out)
  · exact ⟨rfl, (HN1.out.turn (setRow_other _ _ _ _ hne1)), HO1.out.setRowNew (by omega) _⟩

theorem infoNd : (Try.prog.info? 73).map (fun i => (i.zero.isSome, i.size, i.bytes)) = some (true, 257, 2056) := by kernel_rfl
theorem nd_one {E : Nat → Nat} {K : Nat → Nat → Bool} {C : Array Value} (h2 : ∀ n, n < 64 → C[n * 257]? = some (.int .u64 (E n : Int)) ∧ ∀ i, i < 256 → C[n * 257 + 1 + i]? = some (.int .u64 (word (K n) i : Int))) (j : Nat) (hj : j < 16448) : ∃ x : Int, C[j]? = some (.int .u64 x) := by
  by_cases e : j % 257 = 0
  · have := (h2 (j / 257) (by omega)).1
    rw [show j / 257 * 257 = j by omega] at this
    exact ⟨_, this⟩
  · have := (h2 (j / 257) (by omega)).2 (j % 257 - 1) (by omega)
    rw [show j / 257 * 257 + 1 + (j % 257 - 1) = j by omega] at this
    exact ⟨_, this⟩
/-- the nodes, copied into a row of their own -/
theorem nd_copy {W : World} {B g c : Nat} {E : Nat → Nat} {K : Nat → Nat → Bool} {cap : Nat} (hN : Nd W g E K) (hB : B ≤ c) (hc : W.heap[c]? = some (.cells #[] 73 (0, 0))) :
    ∃ g' cap' W', (Builtin.append_ #[31, 31] 31 #[.slice (some ⟨c, 0, none⟩) 0 0, .slice (some ⟨g, 0, none⟩) 64 cap]).run Try.prog W = .ok (.slice (some ⟨g', 0, none⟩) 64 cap') W' ∧ Nd W' g' E K ∧ B ≤ g' ∧ Below B W W' := by
  obtain ⟨C, h1, h2⟩ := hN
  have hcl : c < W.heap.size := (Array.getElem?_eq_some_iff.1 hc).1
  have hsz : 16448 ≤ C.size := by
    have := (Array.getElem?_eq_some_iff.1 ((h2 63 (by omega)).2 255 (by omega))).1
    omega
  have hi := infoNd
  cases hi0 : Try.prog.info? 73 with
  | none => rw [hi0] at hi; cases hi
  | some i0 =>
    rw [hi0] at hi
    simp only [Option.map_some, Option.some.injEq, Prod.mk.injEq] at hi
    obtain ⟨hz0, hz1, hz2⟩ := hi
    obtain ⟨z, hz⟩ := Option.isSome_iff_exists.1 hz0
    have hzs : z.cells.size = 257 := by
      have hk : ((Try.prog.info? 73).bind (fun i => i.zero)).map (fun z => z.cells.size) = some 257 := by kernel_rfl
      rw [hi0, Option.bind_some, hz] at hk
      simpa using hk
    have hown : W.ownsRow B 73 257 (.slice (some ⟨c, 0, none⟩) 0 0) 0 [] := ⟨by simp, .inr ⟨c, 0, #[], rfl, hB, hc, Nat.le_refl _, by unfold maxLen; omega, rfl, rfl⟩⟩
    have hlen : (C.toList.take 16448).length = 64 * 257 := by rw [List.length_take, Array.length_toList]; omega
    obtain ⟨v', w', hrun, ho, hgr, hnil⟩ := run_append_own (P := Try.prog) W B 31 31 73 i0 z 257 2056 Try.underlying31 hi0 hz hz1 hz2 hzs (by decide) _ _ _ hown ⟨g, 0, none⟩ 64 cap (C.toList.take 16448) hlen
      (fun j u hj => by
        rw [Go.WideShapes.add_plain, Nat.zero_add, cell_of_row W g j C _ _ h1]
        rw [List.getElem?_take] at hj
        split at hj
        · simpa using hj
        · cases hj)
      (fun u hu => by
        obtain ⟨j, hj, rfl⟩ := List.getElem_of_mem hu
        obtain ⟨x, hx⟩ := nd_one h2 j (by rw [hlen] at hj; omega)
        rw [List.getElem_take, Array.getElem_toList]
        rw [Array.getElem?_eq_getElem (by rw [hlen] at hj; omega)] at hx
        rw [Option.some.inj hx]
        rfl) (by unfold maxLen; omega) (by omega) (by omega)
    rcases ho.2 with ⟨e, h0⟩ | ⟨g', cap', cur, rfl, hb', hh, hnc, hcm, hcs, htk⟩
    · cases h0
    · refine ⟨g', cap', w', hrun, ⟨cur, hh, fun n hn => ?_⟩, hb', (Below.refl B W).grown hgr (by omega) (fun k hk => (World.ownsRow.lt hown k hk).1)⟩
      rw [List.nil_append] at htk
      have key : ∀ j, j < 16448 → cur[j]? = C[j]? := fun j hj => by
        have := congrArg (fun l : List Value => l[j]?) htk
        simp only [List.getElem?_take, if_pos hj] at this
        simpa using this
      refine ⟨?_, fun i hi => ?_⟩
      · rw [key _ (by omega)]; exact (h2 n hn).1
      · rw [key _ (by omega)]; exact (h2 n hn).2 i hi
set_option maxHeartbeats 2000000 in
set_option maxRecDepth 100000 in
/-- the document's copied -/
theorem rcopied_any (self g cap cur : Nat) (E : Nat → Nat) (K : Nat → Nat → Bool) (w : World) (hN : Nd w g E K) : Calls Try.prog 41 #[.agg (rvc self g cap cur)] w fun e w' => ∃ g' cap', e = .returned (.agg (rvc self g' cap' cur)) ∧ Nd w' g' E K ∧ w.heap.size ≤ g' ∧ Below w.heap.size w w' := by
  have hg := hN.lt
  have HB0 : Hid (RVb ((w.alloc (.cells (rvc self g cap cur) 33)).alloc (.cells #[.int .i64 0, .slice none 0 0, .int .u64 0] 33)) w.heap.size self g cap cur) := heap_alloc2_old w _ _
  have HR0 : Hid (((w.alloc (.cells (rvc self g cap cur) 33)).alloc (.cells #[.int .i64 0, .slice none 0 0, .int .u64 0] 33)).heap[w.heap.size + 1]? = some (.cells #[.int .i64 0, .slice none 0 0, .int .u64 0] 33 (0, 0))) := heap_alloc2_new w _ _
  have HW0 : Hid (Below w.heap.size w ((w.alloc (.cells (rvc self g cap cur) 33)).alloc (.cells #[.int .i64 0, .slice none 0 0, .int .u64 0] 33))) := (below_alloc w _).alloc (by simp) _
  have HN0 : Hid (Nd ((w.alloc (.cells (rvc self g cap cur) 33)).alloc (.cells #[.int .i64 0, .slice none 0 0, .int .u64 0] 33)) g E K) := hN.below HW0.out hg
  obtain ⟨c0, c1, c2⟩ := rv_cells HB0.out
  have hsz : ((w.alloc (.cells (rvc self g cap cur) 33)).alloc (.cells #[.int .i64 0, .slice none 0 0, .int .u64 0] 33)).heap.size = w.heap.size + 2 := by simp
  have HSZ := hid hsz
  clear hsz
  generalize rvc self g cap cur = RC at *
  go_enter Try.func41, Try.ntmps41
  go_upto_region 1 with fail
  generalize (w.alloc (.cells RC 33)).alloc (.cells #[.int .i64 0, .slice none 0 0, .int .u64 0] 33) = w2 at *
  have hb2 := below_alloc w2 (.cells #[] 73)
  have HB3 := hid (HB0.out.below hb2 HB0.out.lt)
  have HR3 := hid ((hb2.block _ (by rw [HSZ.out]; omega)).trans HR0.out)
  have HW3 := hid (HW0.out.trans (hb2.mono HW0.out.size))
  obtain ⟨d0, d1, d2⟩ := rv_cells HB3.out
  obtain ⟨g', cap', W', hr, hNd, hge, hbl⟩ := nd_copy (B := w2.heap.size) (c := w2.heap.size) (cap := cap) (HN0.out.below hb2 HN0.out.lt) (Nat.le_refl _) (heap_alloc_new w2 _)
  have HR := hid hr
  have HB4 := hid (HB3.out.below hbl HB0.out.lt)
  have HR4 := hid ((hbl.block _ (by rw [HSZ.out]; omega)).trans HR3.out)
  have HW4 := hid (HW3.out.trans (hbl.mono HW0.out.size))
  have HN4 := hid hNd
  have HGE : Hid (w.heap.size ≤ g') := Nat.le_trans HW0.out.size hge
  obtain ⟨e0, e1, e2⟩ := rv_cells HB4.out
  have f1 := HB4.out.frozen 1
  have HB5 : Hid (RVb (W'.setCell ⟨w.heap.size, 1, none⟩ (.slice (some ⟨g', 0, none⟩) 64 cap')) w.heap.size self g' cap' cur) := heap_setCell_same W' w.heap.size 1 _ _ _ HB4.out
  have HR5 : Hid ((W'.setCell ⟨w.heap.size, 1, none⟩ (.slice (some ⟨g', 0, none⟩) 64 cap')).heap[w.heap.size + 1]? = some (.cells #[.int .i64 0, .slice none 0 0, .int .u64 0] 33 (0, 0))) := (Below.heap_setCell _ _ _ _ (by show w.heap.size + 1 ≠ w.heap.size; omega)).trans HR4.out
  have HW5 := hid (HW4.out.setCell (p := ⟨w.heap.size, 1, none⟩) (Nat.le_refl _) (.slice (some ⟨g', 0, none⟩) 64 cap'))
  have HN5 : Hid (Nd (W'.setCell ⟨w.heap.size, 1, none⟩ (.slice (some ⟨g', 0, none⟩) 64 cap')) g' E K) := HN4.out.turn (Below.heap_setCell _ _ _ _ (by show g' ≠ w.heap.size; have := HSZ.out; omega))
  have HGN : Hid (g' ≠ w.heap.size + 1) := by have := HSZ.out; show _ ≠ _; omega
  clear hb2 hr hNd hge hbl c0 c1 c2
  go_wp2_with (at_builtin; refine wpList_append_run rfl _ _ 31 rfl _ _ _ _ rfl rfl HR.out (Hid.out ?_))
  refine hid ?_
  go_upto_region 2 with fail
  generalize W'.setCell ⟨w.heap.size, 1, none⟩ (.slice (some ⟨g', 0, none⟩) 64 cap') = w5 at HB5 HR5 HW5 HN5 ⊢
  clear d0 d1 d2 e0 e1 e2 f1
  go_wp2_with (refine wpList_load_row rfl 33 _ rfl w.heap.size rfl 33 _ (0, 0) _ HB5.out Try.underlying33 rfl (infoRV rfl) (Hid.out ?_))
  refine hid ?_
  go_wp2_with (refine wpList_store_row rfl 33 _ _ rfl (w.heap.size + 1) (rvc self g' cap' cur) rfl rfl 33 _ HR5.out (infoRV rfl) rfl (rvc_one _ _ _ _) (Hid.out ?_))
  refine hid ?_
  go_wp2_with fail
  refine bodyPost_ret (v := .agg (rvc self g' cap' cur)) ?_ rfl ?_
  · exact ret_rv rfl rfl (setRow_heap _ _ _ _ _ _ HR5.out)
  · exact ⟨g', cap', rfl, HN5.out.turn (setRow_other w5 (w.heap.size + 1) g' _ HGN.out), HGE.out, below_setRow HW5.out (by omega) _⟩

end Go.Proofs.Ytdicjnkbmlamgab

namespace Go.Proofs.Ytdicjnkbmlamgab
open Go.RowKit
open Slot

/-- the slot s is n's alone -/
def ownK (K : Nat → Nat → Bool) (s n : Nat) : Nat → Nat → Bool := fun m t => if t = s then m == n else K m t
def partK (K : Nat → Nat → Bool) (s n k : Nat) : Nat → Nat → Bool := fun m t => if m < k then ownK K s n m t else K m t
theorem part_zero (K : Nat → Nat → Bool) (s n : Nat) : partK K s n 0 = K := by
  funext m t; unfold partK; rw [if_neg (Nat.not_lt_zero _)]
theorem part_at (K : Nat → Nat → Bool) (s n k : Nat) : partK K s n k k = K k := by
  funext t; unfold partK; rw [if_neg (Nat.lt_irrefl _)]
/-- with the slot taken away -/
def lessK (K : Nat → Nat → Bool) (s n k : Nat) : Nat → Nat → Bool := fun m t => if m = k then K k t && !oneS s t else partK K s n k m t
theorem less_at (K : Nat → Nat → Bool) (s n k : Nat) : lessK K s n k k = fun t => K k t && !oneS s t := by
  funext t; unfold lessK; rw [if_pos rfl]
theorem less_else (K : Nat → Nat → Bool) (s n k : Nat) : ∀ m j, m < 64 → j < 256 → ¬ (m = k ∧ j = s / 64) → word (lessK K s n k m) j = word (partK K s n k m) j := fun m j _ _ h => by
  by_cases e : m = k
  · subst e
    rw [less_at, part_at]
    refine word_congr fun t ht => ?_
    have : ¬ 64 * j + t = s := fun c => h ⟨rfl, by omega⟩
    simp [oneS, this]
  · unfold lessK
    simp only [if_neg e]
theorem part_less (K : Nat → Nat → Bool) (s n k : Nat) (hkn : k ≠ n) : partK K s n (k + 1) = lessK K s n k := by
  funext m t
  unfold lessK partK ownK oneS
  by_cases e : m = k
  · subst e
    rw [if_pos (by omega), if_pos rfl]
    by_cases e2 : t = s
    · simp [e2, hkn]
    · simp [e2]
  · rw [if_neg e]
    by_cases e2 : m < k
    · rw [if_pos (by omega), if_pos e2]
    · rw [if_neg (by omega), if_neg e2]
theorem part_more (K : Nat → Nat → Bool) (s n : Nat) : partK K s n (n + 1) n = fun t => lessK K s n n n t || oneS s t := by
  funext t
  rw [less_at]
  unfold partK ownK oneS
  rw [if_pos (by omega)]
  by_cases e : t = s
  · simp [e]
  · have e2 : (t == s) = false := beq_eq_false_iff_ne.2 e
    simp [e, e2]
theorem wrap_pow (r : Nat) (h : r < 64) : IntKind.u64.wrap ((2 ^ r : Nat) : Int) = ((2 ^ r : Nat) : Int) := by
  have : (2 : Nat) ^ r < 2 ^ 64 := Nat.pow_lt_pow_right (by decide) h
  rw [IntKind.wrap_u64]
  generalize (2 : Nat) ^ r = x at *
  omega
theorem part_else (K : Nat → Nat → Bool) (s n : Nat) : ∀ m j, m < 64 → j < 256 → ¬ (m = n ∧ j = s / 64) → word (partK K s n (n + 1) m) j = word (lessK K s n n m) j := fun m j _ _ h => by
  by_cases e : m = n
  · subst e
    rw [part_more]
    refine word_congr fun t ht => ?_
    have : ¬ 64 * j + t = s := fun c => h ⟨rfl, by omega⟩
    simp [oneS, this]
  · refine word_congr fun t ht => ?_
    unfold lessK partK
    rw [if_neg e]
    by_cases e2 : m < n
    · rw [if_pos (by omega), if_pos e2]
    · rw [if_neg (by omega), if_neg e2]
theorem part_all (K : Nat → Nat → Bool) (s n : Nat) {w : World} {g : Nat} {E : Nat → Nat} (h : Nd w g E (partK K s n 64)) : Nd w g E (ownK K s n) :=
  h.congr (fun _ _ => rfl) (fun m i hm _ => word_congr fun t _ => by unfold partK; rw [if_pos hm])
set_option maxHeartbeats 4000000 in
set_option maxRecDepth 100000 in
/-- the document's owned -/
theorem rowned_any (self g cap cur s n : Nat) (E : Nat → Nat) (K : Nat → Nat → Bool) (w : World) (hs : s < 16384) (hn : n < 64) (hN : Nd w g E K) : Calls Try.prog 46 #[.agg (rvc self g cap cur), .int .i64 (s : Int), .int .i64 (n : Int)] w fun e w' => e = .returned (.agg (rvc self g cap cur)) ∧ Nd w' g E (ownK K s n) ∧ Only g w w' := by
  have hg := hN.lt
  have HB0 : Hid (RVb ((w.alloc (.cells (rvc self g cap cur) 33)).alloc (.cells #[.int .i64 0, .slice none 0 0, .int .u64 0] 33)) w.heap.size self g cap cur) := heap_alloc2_old w _ _
  have HR0 : Hid (((w.alloc (.cells (rvc self g cap cur) 33)).alloc (.cells #[.int .i64 0, .slice none 0 0, .int .u64 0] 33)).heap[w.heap.size + 1]? = some (.cells #[.int .i64 0, .slice none 0 0, .int .u64 0] 33 (0, 0))) := heap_alloc2_new w _ _
  have HO0 : Hid (Only g w ((w.alloc (.cells (rvc self g cap cur) 33)).alloc (.cells #[.int .i64 0, .slice none 0 0, .int .u64 0] 33))) := ((Only.refl g w).alloc _).alloc _
  have HN0 : Hid (Nd ((w.alloc (.cells (rvc self g cap cur) 33)).alloc (.cells #[.int .i64 0, .slice none 0 0, .int .u64 0] 33)) g E (partK K s n 0)) := by rw [part_zero]; exact hN.below ((below_alloc w _).alloc (by simp) _) hg
  have hne : g ≠ w.heap.size := by omega
  have hne1 : g ≠ w.heap.size + 1 := by omega
  obtain ⟨q, hq⟩ : ∃ q : Nat, q = s / 64 := ⟨_, rfl⟩
  obtain ⟨r, hr⟩ : ∃ r : Nat, r = s % 64 := ⟨_, rfl⟩
  have q1 : (s : Int) / 64 = (q : Int) := by omega
  have q2 : (s : Int).tdiv 64 = (q : Int) := by rw [Int.tdiv_eq_ediv_of_nonneg (by omega)]; omega
  have q3 : IntKind.i64.wrap (q : Int) = q := by rw [IntKind.wrap_i64]; omega
  have r1 : (s : Int) % 64 = (r : Int) := by omega
  have q256 : q < 256 := by omega
  have r64 : r < 64 := by omega
  have q256' : (q : Int) < 256 := by omega
  have ho := one_word s
  rw [← hq, ← hr] at ho
  have ho1 := wrap_pow r r64
  rw [ho] at ho1
  rw [show ((2 ^ r : Nat) : Int) = (2 : Int) ^ r by rw [Int.natCast_pow]; rfl] at ho
  have HQ := hid hq
  clear hq hr
  generalize hRC : rvc self g cap cur = RC at *
  have HRC : Hid (Ending.returned (.agg (rvc self g cap cur)) = .returned (.agg RC)) := by rw [hRC]; exact rfl
  clear hRC
  go_enter Try.func46, Try.ntmps46
  go_upto_region 1 with fail
  generalize (w.alloc (.cells RC 33)).alloc (.cells #[.int .i64 0, .slice none 0 0, .int .u64 0] 33) = w2 at *
  go_wp2_with fail
  generalize hOB : (word (oneS s) q : Int) = OB at *
  have HOB := hid hOB
  clear hOB
  go_loopw [8] (fun i wr => ∃ k : Nat, k ≤ 64 ∧ i = .int .i64 k ∧ Hid (Nd wr g E (partK K s n k)) ∧ Hid (Only g w wr) ∧ Hid (RVb wr w.heap.size self g cap cur) ∧ Hid (wr.heap[w.heap.size + 1]? = some (.cells #[.int .i64 0, .slice none 0 0, .int .u64 0] 33 (0, 0)))) (fun i _ => 64 - (intOf i).toNat)
  case atStart => exact ⟨0, by omega, rfl, HN0.out, HO0.out, HB0.out, HR0.out⟩
  case round =>
    obtain ⟨k, hk, rfl, HN, HO, HB, HR⟩ := hrel
    obtain ⟨c0, c1, c2⟩ := rv_cells HB.out
    by_cases hlt : k < 64
    · have hkz : (k : Int) < 64 := by omega
      have cw := HN.out.wd (i := q) hlt q256
      have fw := HN.out.frozen (k * 257 + 1 + q)
      rw [part_at] at cw
      have hand := andNot_bits (K k) (oneS s) q
      rw [HOB.out, ← less_at K s n k] at hand
      have HN1 := hid (HN.out.setW (L := lessK K s n k) hlt q256 (fun m j hm hj h => less_else K s n k m j hm hj (by rw [← HQ.out]; exact h)))
      have HO1 := hid (HO.out.setCell (k * 257 + 1 + q) (.int .u64 (word (lessK K s n k k) q : Int)))
      have HN4 : Hid (Nd (wr.setCell ⟨g, k * 257 + 1 + q, none⟩ (.int .u64 (word (lessK K s n k k) q : Int))).drew g E (lessK K s n k)) := HN1.out.turn rfl
      have HO4 := hid HO1.out.drew
      have HB4 : Hid (RVb (wr.setCell ⟨g, k * 257 + 1 + q, none⟩ (.int .u64 (word (lessK K s n k k) q : Int))).drew w.heap.size self g cap cur) := (Below.heap_setCell wr ⟨g, k * 257 + 1 + q, none⟩ _ _ hne.symm).trans HB.out
      have HR4 : Hid ((wr.setCell ⟨g, k * 257 + 1 + q, none⟩ (.int .u64 (word (lessK K s n k k) q : Int))).drew.heap[w.heap.size + 1]? = some (.cells #[.int .i64 0, .slice none 0 0, .int .u64 0] 33 (0, 0))) := (Below.heap_setCell wr ⟨g, k * 257 + 1 + q, none⟩ _ _ hne1.symm).trans HR.out
      clear HN1 HO1
      have HA := hid hand
      generalize hy1 : (word (lessK K s n k k) q : Int) = y1 at *
      have HY := hid hy1
      generalize (word (K k) q : Int) = x at *
      clear hy1
      by_cases hkn : k = n
      · subst hkn
        go_wp2
        go_region
        generalize (wr.setCell ⟨g, k * 257 + 1 + q, none⟩ (.int .u64 y1)).drew = w4 at HN4 HO4 HB4 HR4 ⊢
        have hor := or_bits (lessK K s k k k) (oneS s) q
        rw [HOB.out, ← part_more K s k, HY.out] at hor
        have HN5 := hid (HN4.out.setW (L := partK K s k (k + 1)) hlt q256 (fun m j hm hj h => part_else K s k m j hm hj (by rw [← HQ.out]; exact h)))
        have HO5 := hid (HO4.out.setCell (k * 257 + 1 + q) (.int .u64 (word (partK K s k (k + 1) k) q : Int)))
        obtain ⟨d0, d1, d2⟩ := rv_cells HB4.out
        have dw := HN4.out.wd (i := q) hlt q256
        rw [HY.out] at dw
        have gw := HN4.out.frozen (k * 257 + 1 + q)
        have HB5 : Hid (∀ y, RVb (w4.setCell ⟨g, k * 257 + 1 + q, none⟩ y).drew w.heap.size self g cap cur) := fun y => (Below.heap_setCell w4 ⟨g, k * 257 + 1 + q, none⟩ y _ hne.symm).trans HB4.out
        have HR5 : Hid (∀ y, (w4.setCell ⟨g, k * 257 + 1 + q, none⟩ y).drew.heap[w.heap.size + 1]? = some (.cells #[.int .i64 0, .slice none 0 0, .int .u64 0] 33 (0, 0))) := fun y => (Below.heap_setCell w4 ⟨g, k * 257 + 1 + q, none⟩ y _ hne1.symm).trans HR4.out
        generalize (word (partK K s k (k + 1) k) q : Int) = y2 at *
        clear c0 c1 c2 cw fw hand
        go_wp2
        go_region
        go_wp2
        go_roundw
        case rel => exact ⟨k + 1, by omega, by go_num, HN5.out.turn rfl, HO5.out.drew, HB5.out _, HR5.out _⟩
        case measure => simp [intOf]; omega
      · have hkn2 : ((k : Int) == (n : Int)) = false := by rw [beq_eq_false_iff_ne]; omega
        have hkn3 : ¬ (k : Int) = (n : Int) := by omega
        rw [← part_less K s n k hkn] at HN4
        go_wp2
        go_region
        go_wp2
        go_roundw
        case rel => exact ⟨k + 1, by omega, by go_num, HN4.out, HO4.out, HB4.out, HR4.out⟩
        case measure => simp [intOf]; omega
    · obtain rfl : k = 64 := by omega
      have HN9 := hid (part_all K s n HN.out)
      go_wp2_with (refine wpList_load_row rfl 33 _ rfl w.heap.size rfl 33 _ (0, 0) _ HB.out Try.underlying33 rfl (infoRV rfl) (Hid.out ?_))
      refine hid ?_
      go_wp2_with (refine wpList_store_row rfl 33 _ _ rfl (w.heap.size + 1) (rvc self g cap cur) rfl rfl 33 _ HR.out (infoRV rfl) rfl (rvc_one _ _ _ _) (Hid.out ?_))
      refine hid ?_
      go_wp2_with fail
      refine bodyPost_ret (v := .agg (rvc self g cap cur)) ?_ rfl ?_
      · exact ret_rv rfl rfl (setRow_heap _ _ _ _ _ _ HR.out)
      · exact ⟨HRC.out, HN9.out.turn (setRow_other _ _ _ _ hne1), HO.out.setRowNew (by omega) _⟩

end Go.Proofs.Ytdicjnkbmlamgab
