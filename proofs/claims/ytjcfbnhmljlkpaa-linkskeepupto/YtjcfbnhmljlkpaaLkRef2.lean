/- The document's Next. -/
import Derived.Test.YtjcfbnhmljlkpaaLkRef1
import Derived.Deep.RegionHeld3
namespace Go.Proofs.Ytjcfbnhmljlkpaa
open Go.RowKit

def cutM : List Wm → Int → Int → List Wm
  | [], _, _ => []
  | m :: l, f, t => if isOn f t m.y = true then l else m :: cutM l f t
def firstM : List Wm → Int → Int → Option Wm
  | [], _, _ => none
  | m :: l, f, t => if isOn f t m.y = true then some m else firstM l f t
theorem cutM_ways (R : List Wm) (f t : Int) : ways (cutM R f t) = cutV (ways R) f t := by
  induction R with
  | nil => rfl
  | cons m R ih =>
    simp only [cutM, ways, List.map_cons, cutV]
    by_cases h : isOn f t m.y = true
    · rw [if_pos h, if_pos h]
    · rw [if_neg h, if_neg h]
      simp only [List.map_cons]
      rw [show List.map (·.y) (cutM R f t) = _ from ih]
theorem firstM_on (R : List Wm) (f t : Int) : (firstM R f t).map (·.y.x) = (onV (ways R) f t).head? := by
  induction R with
  | nil => rfl
  | cons m R ih =>
    simp only [firstM, ways, List.map_cons, onV]
    by_cases h : isOn f t m.y = true
    · rw [if_pos h, if_pos h]; rfl
    · rw [if_neg h, if_neg h]; exact ih
theorem cutM_snoc (l : List Wm) (m : Wm) (f t : Int) : cutM (l ++ [m]) f t = if (firstM l f t).isSome = true ∨ isOn f t m.y = false then cutM l f t ++ [m] else cutM l f t := by
  induction l with
  | nil =>
    simp only [List.nil_append, cutM, firstM]
    cases h : isOn f t m.y <;> simp
  | cons x l ih =>
    simp only [List.cons_append, cutM, firstM]
    by_cases h : isOn f t x.y = true
    · simp [h]
    · have h' : isOn f t x.y = false := by simpa using h
      simp only [h', Bool.false_eq_true, if_false, ih]
      split <;> rfl
theorem firstM_snoc (l : List Wm) (m : Wm) (f t : Int) : firstM (l ++ [m]) f t = if (firstM l f t).isSome = true then firstM l f t else if isOn f t m.y = true then some m else none := by
  induction l with
  | nil => simp [firstM]
  | cons x l ih =>
    simp only [List.cons_append, firstM]
    by_cases h : isOn f t x.y = true
    · simp [h]
    · have h' : isOn f t x.y = false := by simpa using h
      simp only [h', Bool.false_eq_true, if_false, ih]
theorem cutM_sub (R : List Wm) (f t : Int) : ∀ m ∈ cutM R f t, m ∈ R := by
  induction R with
  | nil => intro m h; simp [cutM] at h
  | cons x R ih =>
    intro m h
    simp only [cutM] at h
    by_cases hx : isOn f t x.y = true
    · rw [if_pos hx] at h; exact List.mem_cons_of_mem _ h
    · rw [if_neg hx] at h
      rcases List.mem_cons.1 h with rfl | h
      · simp
      · exact List.mem_cons_of_mem _ (ih m h)
theorem cutM_len (R : List Wm) (f t : Int) : (cutM R f t).length ≤ R.length := by
  induction R with
  | nil => simp [cutM]
  | cons x R ih => simp only [cutM]; split <;> simp <;> omega
theorem firstM_mem {R : List Wm} {f t : Int} {m : Wm} (h : firstM R f t = some m) : m ∈ R := by
  induction R with
  | nil => simp [firstM] at h
  | cons x R ih =>
    simp only [firstM] at h
    by_cases hx : isOn f t x.y = true
    · rw [if_pos hx] at h; injection h with h; subst h; simp
    · rw [if_neg hx] at h; exact List.mem_cons_of_mem _ (ih h)
abbrev zeroL : Array Value := #[.int .i64 0, .int .i64 0, .int .i64 0, .int .i64 0, .string ⟨#[]⟩, .string ⟨#[]⟩, .slice none 0 0, .int .i64 0, .int .i64 0, .string ⟨#[]⟩, .slice none 0 0, .bool false, .int .i64 0]
/-- what is told of a letter that may be none -/
def xC : Option Wm → Array Value
  | some m => ltC m.y.x m.ap m.ac m.rp m.rc
  | none => zeroL
theorem xC_size (o : Option Wm) : (xC o).size = 13 := by cases o <;> rfl
theorem ltC_one (x : Lt) (ap : Option Addr) (ac : Nat) (rp : Option Addr) (rc : Nat) : (ltC x ap ac rp rc).all (·.oneCell') = true := by simp [ltC, txt, Value.oneCell']
theorem xC_one (o : Option Wm) : (xC o).all (·.oneCell') = true := by
  cases o with
  | none => simp [xC, Value.oneCell']
  | some m => exact ltC_one _ _ _ _ _
theorem infoLt (c : Array Value) (h : c.size = 13) : (Try.prog.info? 33).map (·.size) = some c.size := by
  rw [h]; kernel_rfl
theorem ret_next {fn : Func} {p q s : Tmp} (h : fn.results = #[.tmp p, .cell q 33, .tmp s]) {tmps : Array Value} {w : World} {b : Nat} {v v' : Value} (C : Array Value) (hC : C.size = 13) (hp : tmps.getD p undef = v) (hq : tmps.getD q undef = .pointer (some ⟨b, 0, none⟩)) (hs : tmps.getD s undef = v') (hB : w.heap[b]? = some (.cells C 33 (0, 0))) :
    (results fn tmps).run Try.prog w = .ok (.tuple #[v, .agg C, v']) w := by
  have hp' : tmps[p]?.getD undef = v := by simpa using hp
  have hq' : tmps[q]?.getD undef = .pointer (some ⟨b, 0, none⟩) := by simpa using hq
  have hs' : tmps[s]?.getD undef = v' := by simpa using hs
  simp [results, h, hp', hq', hs', asAddr, run_loadVar_row w b 33 33 C (0, 0) _ hB Try.underlying33 rfl (infoLt C hC)]
/-- Next, on its way -/
structure Nq (w W : World) (o : Option Wm) : Prop where
  res : W.heap[w.heap.size]? = some (.cells zeroL 33 (0, 0))
  let_ : W.heap[w.heap.size + 1]? = some (.cells (xC o) 33 (0, 0))
  bel : Below w.heap.size w W
theorem Nq.go {w W W' : World} {o : Option Wm} (h : Nq w W o) (hb : Below (w.heap.size + 2) W W') : Nq w W' o :=
  ⟨(hb.block _ (by omega)).trans h.res, (hb.block _ (by omega)).trans h.let_, h.bel.trans (hb.mono (by omega))⟩
def NextP (R : List Wm) (f t : Int) (w : World) (e : Ending) (w' : World) : Prop :=
  ∃ v, e = .returned (.tuple #[v, .agg (xC (firstM R f t)), .bool (firstM R f t).isSome]) ∧ OwnW (w.heap.size + 2) w' v (cutM R f t) ∧ Below w.heap.size w w'
theorem way_facts {W : World} {b k : Nat} {m : Wm} (h : ∀ j, j < 15 → W.cell? ⟨b, k + j, none⟩ = m.cells[j]?) :
    W.cell? ⟨b, k, none⟩ = some (.int .i64 m.y.frm) ∧ W.cell? ⟨b, k + 1, none⟩ = some (.int .i64 m.y.dst) ∧ W.cell? ⟨b, k + 2, none⟩ = some (.int .i64 m.y.x.kind) ∧ W.cell? ⟨b, k + 3, none⟩ = some (.int .i64 m.y.x.number) ∧ W.cell? ⟨b, k + 4, none⟩ = some (.int .i64 m.y.x.slot) ∧ W.cell? ⟨b, k + 5, none⟩ = some (.int .i64 m.y.x.ends) ∧ W.cell? ⟨b, k + 6, none⟩ = some (txt m.y.x.key) ∧ W.cell? ⟨b, k + 7, none⟩ = some (txt m.y.x.text) ∧ W.cell? ⟨b, k + 8, none⟩ = some (.slice m.ap m.y.x.args.length m.ac) ∧ W.cell? ⟨b, k + 9, none⟩ = some (.int .i64 m.y.x.reply.kind) ∧ W.cell? ⟨b, k + 10, none⟩ = some (.int .i64 m.y.x.reply.int) ∧ W.cell? ⟨b, k + 11, none⟩ = some (txt m.y.x.reply.text) ∧ W.cell? ⟨b, k + 12, none⟩ = some (.slice m.rp m.y.x.reply.list.length m.rc) ∧ W.cell? ⟨b, k + 13, none⟩ = some (.bool m.y.x.good) ∧ W.cell? ⟨b, k + 14, none⟩ = some (.int .i64 m.y.x.asking) :=
  ⟨h 0 (by decide), h 1 (by decide), h 2 (by decide), h 3 (by decide), h 4 (by decide), h 5 (by decide), h 6 (by decide), h 7 (by decide), h 8 (by decide), h 9 (by decide), h 10 (by decide), h 11 (by decide), h 12 (by decide), h 13 (by decide), h 14 (by decide)⟩
theorem way_range {W : World} {b k : Nat} {m : Wm} (h : ∀ j, j < 15 → W.cell? ⟨b, k + j, none⟩ = m.cells[j]?) : W.rangeAt b k m.cells.toList := fun j v hv => by
  have hj : j < 15 := by
    have := (List.getElem?_eq_some_iff.1 hv).1
    simpa [Wm.cells] using this
  rw [h j hj, ← Array.getElem?_toList]; exact hv
theorem way_range2 {W : World} {b k : Nat} {m : Wm} (h : ∀ j, j < 15 → W.cell? ⟨b, k + j, none⟩ = m.cells[j]?) : W.rangeAt b (k + 2) (ltC m.y.x m.ap m.ac m.rp m.rc).toList := fun j v hv => by
  have hj : j < 13 := by
    have := (List.getElem?_eq_some_iff.1 hv).1
    simpa [ltC] using this
  rw [Nat.add_assoc, h (2 + j) (by omega), ← Array.getElem?_toList]
  have e : m.cells.toList = .int .i64 m.y.frm :: .int .i64 m.y.dst :: (ltC m.y.x m.ap m.ac m.rp m.rc).toList := rfl
  rw [e, Nat.add_comm 2 j]
  exact hv
theorem own_row {B g : Nat} {W : World} {v : Value} {R : List Wm} {C : Array Value} (h : OwnW B W v R) (hg : g < B) : OwnW B (W.setRow g C) v R := by
  refine ⟨h.1, ?_⟩
  rcases h.2 with h | ⟨g', cap, cur, h1, h2, h3, h4⟩
  · exact .inl h
  · exact .inr ⟨g', cap, cur, h1, h2, (setRow_other W g g' C (by omega)).trans h3, h4⟩
theorem size_row (W : World) (g : Nat) (C : Array Value) : W.heap.size ≤ (W.setRow g C).heap.size := (below_setRow (Below.refl 0 W) (Nat.zero_le _) C).size
theorem load_row_at {op : Oper} {a : Act} (x : Operand) (ho : op.op = .load 33 x) (w : World) (b : Nat) (hx : a.eval x = .pointer (some ⟨b, 0, none⟩)) (C : Array Value) (hC : C.size = 13) (h : w.heap[b]? = some (.cells C 33 (0, 0))) : (execOp a.eval op).run Try.prog w = .ok (.value (.agg C)) w := by
  unfold execOp
  simp only [ho, hx, Instr.loadAt, Instr.sureAddr, Sem.run_bind, Sem.run_pure, Result.andThen_ok, run_loadVar_row w b 33 33 C (0, 0) _ h Try.underlying33 rfl (infoLt C hC)]
set_option maxHeartbeats 20000000 in
set_option maxRecDepth 100000 in
/-- ref Next -/
theorem rnext_any (G P : Nat → Prop) (a : Option Addr) (R : List Wm) (c : Nat) (f t : Int) (w : World) (h : Rdw G P w a R) (hl : R.length ≤ 1000000) :
    Calls Try.prog 20 #[.slice a R.length c, .int .i64 f, .int .i64 t] w (NextP R f t w) := by
  have H := hid h
  obtain ⟨n, hn⟩ : ∃ n, R.length = n := ⟨_, rfl⟩
  have HN := hid hn
  rw [hn]
  have hlz : (n : Int) ≤ 1000000 := by omega
  obtain ⟨w1, hw1⟩ : ∃ w1, (w.alloc (.cells zeroL 33)).alloc (.cells zeroL 33) = w1 := ⟨_, rfl⟩
  have HQ : Hid (Nq w w1 none) := by
    unfold Hid
    rw [← hw1]
    exact ⟨heap_alloc2_old w _ _, heap_alloc2_new w _ _, (below_alloc w _).alloc (by simp) _⟩
  have hs1 : w1.heap.size = w.heap.size + 2 := by rw [← hw1]; simp
  clear h hn
  go_enter Try.func20, Try.ntmps20
  go_upto_region 3 with fail
  clear hw1
  go_wp2_with fail
  go_loopw [9, 11, 12] (fun v9 v11 v12 W => ∃ (i : Nat) (b : Bool), v12 = .int .i64 (i : Int) ∧ v11 = .bool b ∧ i ≤ n ∧ Hid (OwnW (w.heap.size + 2) W v9 (cutM (R.take i) f t)) ∧ Hid (b = (firstM (R.take i) f t).isSome) ∧ Hid (Nq w W (firstM (R.take i) f t)) ∧ Hid (w.heap.size + 2 ≤ W.heap.size)) (fun _ _ v12 _ => n - (intOf v12).toNat)
  case atStart => exact ⟨0, false, rfl, rfl, Nat.zero_le _, World.ownsRow_nil _ _ _ _, rfl, HQ.out, by unfold Hid; omega⟩
  case round =>
    obtain ⟨i, b, rfl, rfl, hi, HO, HI, HNq, HS⟩ := hrel
    by_cases hlt : i < n
    · have hiz : (i : Int) < (n : Int) := by omega
      have hiR : i < R.length := by have := HN.out; omega
      obtain ⟨g, o, rfl, -, -, hc⟩ := (H.out.below HNq.out.bel).facts i hiR
      obtain ⟨x0, x1, x2, x3, x4, x5, x6, x7, x8, x9, x10, x11, x12, x13, x14⟩ := way_facts hc
      have HT : Hid (R.take (i + 1) = R.take i ++ [R[i]]) := List.take_succ_eq_append_getElem hiR
      have hcl := cutM_len (R.take i) f t
      have hlen : (cutM (R.take i) f t).length ≤ 1000000 := by rw [List.length_take] at hcl; omega
      obtain ⟨q9, d9, rfl⟩ := HO.out.shape
      obtain ⟨v2, W2, hrun, ho2, hb2⟩ := OwnW.push HO.out HS.out R[i] hlen
      obtain ⟨q2, d2, rfl⟩ := ho2.shape
      obtain ⟨N2, hN2⟩ : ∃ N, (cutM (R.take i) f t ++ [R[i]]).length = N := ⟨_, rfl⟩
      rw [hN2] at hrun ho2
      have HC1 : Hid ((firstM (R.take i) f t).isSome = true ∨ isOn f t R[i].y = false → cutM (R.take (i + 1)) f t = cutM (R.take i) f t ++ [R[i]]) := fun hh => by rw [HT.out, cutM_snoc, if_pos hh]
      have HC2 : Hid ((firstM (R.take i) f t).isSome = false → isOn f t R[i].y = true → cutM (R.take (i + 1)) f t = cutM (R.take i) f t ∧ firstM (R.take (i + 1)) f t = some R[i]) := fun h1 h2 => by rw [HT.out, cutM_snoc, firstM_snoc, if_neg (by rw [h1, h2]; simp), if_neg (by rw [h1]; simp), if_pos h2]; exact ⟨rfl, rfl⟩
      have HC3 : Hid ((firstM (R.take i) f t).isSome = true ∨ isOn f t R[i].y = false → firstM (R.take (i + 1)) f t = firstM (R.take i) f t) := fun hh => by
        rw [HT.out, firstM_snoc]
        cases e : firstM (R.take i) f t with
        | some m => rfl
        | none =>
          rw [e] at hh
          have : isOn f t R[i].y = false := by simpa using hh
          rw [this]; rfl
      have hio : isOn f t R[i].y = (decide (R[i].y.frm = f) && decide (R[i].y.dst = t)) := rfl
      have HIo := hid hio
      have hc2 := hid hc
      obtain ⟨m, hm⟩ : ∃ m, R[i] = m := ⟨_, rfl⟩
      rw [hm] at hc2 x0 x1 x2 x3 x4 x5 x6 x7 x8 x9 x10 x11 x12 x13 x14 hrun ho2 HC1 HC2 HC3 HIo
      have HR2 := hid hrun
      have HO2 := hid ho2
      have HB2 := hid hb2
      clear hc hcl hlen hrun ho2 hb2 hio hm
      have HRg : Hid (wr.rangeAt g (o + i * 15) m.cells.toList ∧ wr.rangeAt g (o + i * 15 + 2) (ltC m.y.x m.ap m.ac m.rp m.rc).toList) := ⟨way_range hc2.out, way_range2 hc2.out⟩
      have HCs : Hid (m.cells.size = 15) := rfl
      have hiW : (Try.prog.info? 56).map (·.size) = some m.cells.toList.length := by show _ = some 15; kernel_rfl
      have hiL : (Try.prog.info? 33).map (·.size) = some (ltC m.y.x m.ap m.ac m.rp m.rc).toList.length := by show _ = some 13; kernel_rfl
      obtain ⟨CW, hCW⟩ : ∃ C, m.cells = C := ⟨_, rfl⟩
      obtain ⟨CL, hCL⟩ : ∃ C, ltC m.y.x m.ap m.ac m.rp m.rc = C := ⟨_, rfl⟩
      rw [hCW, hCL] at HRg
      rw [hCW] at hiW HCs HR2
      rw [hCL] at hiL
      have HCL := hid hCL
      clear hCW hCL x2 x3 x4 x5 x6 x7 x8 x9 x10 x11 x12 x13 x14
      generalize m.y.frm = mf at *
      generalize m.y.dst = mt at *
      cases b
      · have hI : (firstM (R.take i) f t).isSome = false := HI.out.symm
        by_cases hf : mf = f
        · have hfz : (mf == f) = true := by rw [hf]; exact beq_self_eq_true _
          by_cases ht : mt = t
          · have htz : (mt == t) = true := by rw [ht]; exact beq_self_eq_true _
            have hon : isOn f t m.y = true := by rw [HIo.out, hf, ht]; simp
            obtain ⟨hc1, hc2'⟩ := HC2.out hI hon
            have HCE := hid hc1
            have HFE := hid hc2'
            have HNL := hid HNq.out.let_
            have HIL := hid (infoLt CL (by rw [← HCL.out]; rfl))
            have HZL : Hid ((xC (firstM (R.take i) f t)).size = CL.size) := by rw [← HCL.out, xC_size]; rfl
            have HOL : Hid (CL.all (·.oneCell') = true) := by rw [← HCL.out]; exact ltC_one _ _ _ _ _
            have HBL : Hid (Below w.heap.size w (wr.setRow (w.heap.size + 1) CL)) := below_setRow HNq.out.bel (by omega) _
            have HNx : Hid (Nq w (wr.setRow (w.heap.size + 1) CL) (some m)) := by
              refine ⟨(setRow_other wr (w.heap.size + 1) w.heap.size CL (by omega)).trans HNq.out.res, ?_, HBL.out⟩
              have e : xC (some m) = CL := HCL.out
              rw [e]; exact setRow_heap wr _ _ _ _ _ HNL.out
            have HOx : Hid (OwnW (w.heap.size + 2) (wr.setRow (w.heap.size + 1) CL) (.slice q9 (cutM (R.take i) f t).length d9) (cutM (R.take i) f t)) := own_row HO.out (by omega)
            have HSx : Hid (w.heap.size + 2 ≤ (wr.setRow (w.heap.size + 1) CL).heap.size) := Nat.le_trans HS.out (size_row _ _ _)
            clear hon hc1 hc2' hf ht
            go_upto_region 8 with fail
            go_wp2_with (first | (refine wpList_load_mid rfl 33 _ rfl g (o + i * 15 + 2) rfl _ _ HRg.out.2 Try.underlying33 rfl hiL (Hid.out ?_)))
            rw [Array.toArray_toList]
            refine hid ?_
            go_wp2_with (refine wpList_store_row rfl 33 _ _ rfl (w.heap.size + 1) CL rfl rfl 33 _ HNL.out HIL.out HZL.out HOL.out (Hid.out ?_))
            refine hid ?_
            go_wp2_with fail
            exact ⟨⟨i + 1, true, by go_num, rfl, by omega, by unfold Hid; rw [HCE.out]; exact HOx.out, by unfold Hid; rw [HFE.out]; rfl, by unfold Hid; rw [HFE.out]; exact HNx.out, HSx.out⟩, by simp [intOf]; omega⟩
          · have htz : (mt == t) = false := beq_eq_false_iff_ne.2 ht
            have hon : isOn f t m.y = false := by rw [HIo.out]; simp [ht]
            go_upto_region 10 with fail
            go_wp2_with (refine wpList_load_mid rfl 56 _ rfl g (o + i * 15) rfl _ _ HRg.out.1 Try.underlying56 rfl hiW (Hid.out ?_))
            rw [Array.toArray_toList]
            refine hid ?_
            go_wp2_with (first | (refine wpList_bsliceW rfl _ rfl CW rfl HCs.out ?_) | (refine wpList_append_runs rfl _ _ 27 27 rfl (.slice q9 (cutM (R.take i) f t).length d9) (.slice (some ⟨wr.heap.size, 0, none⟩) 1 1) (.slice q2 N2 d2) W2 rfl rfl HR2.out (Hid.out ?_)))
            refine hid ?_
            go_wp2_with fail
            exact ⟨⟨i + 1, false, by go_num, rfl, by omega, by unfold Hid; rw [HC1.out (.inr hon)]; exact HO2.out, by unfold Hid; rw [HC3.out (.inr hon)]; exact HI.out, by unfold Hid; rw [HC3.out (.inr hon)]; exact HNq.out.go HB2.out, by unfold Hid; exact Nat.le_trans HS.out HB2.out.size⟩, by simp [intOf]; omega⟩
        · have hfz : (mf == f) = false := beq_eq_false_iff_ne.2 hf
          have hon : isOn f t m.y = false := by rw [HIo.out]; simp [hf]
          go_upto_region 10 with fail
          go_wp2_with (refine wpList_load_mid rfl 56 _ rfl g (o + i * 15) rfl _ _ HRg.out.1 Try.underlying56 rfl hiW (Hid.out ?_))
          rw [Array.toArray_toList]
          refine hid ?_
          go_wp2_with (first | (refine wpList_bsliceW rfl _ rfl CW rfl HCs.out ?_) | (refine wpList_append_runs rfl _ _ 27 27 rfl (.slice q9 (cutM (R.take i) f t).length d9) (.slice (some ⟨wr.heap.size, 0, none⟩) 1 1) (.slice q2 N2 d2) W2 rfl rfl HR2.out (Hid.out ?_)))
          refine hid ?_
          go_wp2_with fail
          exact ⟨⟨i + 1, false, by go_num, rfl, by omega, by unfold Hid; rw [HC1.out (.inr hon)]; exact HO2.out, by unfold Hid; rw [HC3.out (.inr hon)]; exact HI.out, by unfold Hid; rw [HC3.out (.inr hon)]; exact HNq.out.go HB2.out, by unfold Hid; exact Nat.le_trans HS.out HB2.out.size⟩, by simp [intOf]; omega⟩
      · have hI : (firstM (R.take i) f t).isSome = true := HI.out.symm
        go_upto_region 10 with fail
        go_wp2_with (refine wpList_load_mid rfl 56 _ rfl g (o + i * 15) rfl _ _ HRg.out.1 Try.underlying56 rfl hiW (Hid.out ?_))
        rw [Array.toArray_toList]
        refine hid ?_
        go_wp2_with (first | (refine wpList_bsliceW rfl _ rfl CW rfl HCs.out ?_) | (refine wpList_append_runs rfl _ _ 27 27 rfl (.slice q9 (cutM (R.take i) f t).length d9) (.slice (some ⟨wr.heap.size, 0, none⟩) 1 1) (.slice q2 N2 d2) W2 rfl rfl HR2.out (Hid.out ?_)))
        refine hid ?_
        go_wp2_with fail
        exact ⟨⟨i + 1, true, by go_num, rfl, by omega, by unfold Hid; rw [HC1.out (.inl hI)]; exact HO2.out, by unfold Hid; rw [HC3.out (.inl hI)]; exact HI.out, by unfold Hid; rw [HC3.out (.inl hI)]; exact HNq.out.go HB2.out, by unfold Hid; exact Nat.le_trans HS.out HB2.out.size⟩, by simp [intOf]; omega⟩
    · obtain rfl : i = n := by omega
      have HE : Hid (R.take i = R) := by have h := HN.out; subst h; exact List.take_length
      rw [HE.out] at HO HI HNq
      obtain ⟨q9, d9, rfl⟩ := HO.out.shape
      have HP : Hid (∀ W, Below (w.heap.size) wr W → OwnW (w.heap.size + 2) W (.slice q9 (cutM R f t).length d9) (cutM R f t) → NextP R f t w (.returned (.tuple #[.slice q9 (cutM R f t).length d9, .agg (xC (firstM R f t)), .bool (firstM R f t).isSome])) W) := fun W h1 h2 => ⟨_, rfl, h2, HNq.out.bel.trans h1⟩
      rw [← HI.out] at HP
      have HQ0 := hid HNq.out.res
      have HQ1 := hid HNq.out.let_
      obtain ⟨C, hC⟩ : ∃ C, xC (firstM R f t) = C := ⟨_, rfl⟩
      have hCs : C.size = 13 := by rw [← hC]; exact xC_size _
      have hC1 : C.all (·.oneCell') = true := by rw [← hC]; exact xC_one _
      rw [hC] at HQ1 HP
      obtain ⟨N9, hN9⟩ : ∃ N, (cutM R f t).length = N := ⟨_, rfl⟩
      rw [hN9] at HP HO
      have HO9 := hid (own_row (g := w.heap.size) (C := C) HO.out (by omega))
      have HN9 := hid hN9
      clear hC HI HNq HQ HE HN hN9
      go_upto_region 11 with fail
      rw [HN9.out]
      have q1 : wr.heap[w.heap.size + 1]? = some (.cells C 33 (0, 0)) := HQ1.out
      refine wp_region_noPanic ?_
      refine wp_region_held_drew (S := fun W => W.heap[w.heap.size + 1]? = some (.cells C 33 (0, 0))) (by kernel_rfl) q1 (fun hHeld => ?_)
      refine wpAnyH_take (i := 0) (oi := { dst := some 51, op := Op.move (Operand.tmp 9), type := 27, pos := "ref.go:35", after := #[], guard := none }) (v := .slice q9 N9 d9) rfl (by kernel_rfl) (by kernel_rfl) (by kernel_rfl) (fun _ _ _ h => h) (Or.inl ⟨by rfl, fun wS hSw => ?_⟩) (by assumption) ?_
      · clear hHeld
        clear hSw
        go_simp
      try simp only [Act.put, List.setIfInBounds_toArray, List.set_cons_zero, List.set_cons_succ]
      refine wpAnyH_take (i := 1) (oi := { dst := some 52, op := Op.load 33 (Operand.tmp 10), type := 33, pos := "ref.go:35", after := #[{ on := 3, ground := Ground.gcOnly Departure.lateStores }], guard := none }) (v := .agg C) rfl (by kernel_rfl) (by kernel_rfl) (by kernel_rfl) (fun _ _ _ h => h) (Or.inl ⟨by rfl, fun wS hSw => ?_⟩) (by assumption) ?_
      · clear hHeld
        have y1 := hSw
        exact load_row_at _ rfl wS (w.heap.size + 1) rfl C hCs y1
      try simp only [Act.put, List.setIfInBounds_toArray, List.set_cons_zero, List.set_cons_succ]
      refine wpAnyH_take (i := 2) (oi := { dst := some 53, op := Op.move (Operand.tmp 11), type := 4, pos := "ref.go:35", after := #[{ on := 4, ground := Ground.gcOnly Departure.lateStores }], guard := none }) (v := .bool b) rfl (by kernel_rfl) (by kernel_rfl) (by kernel_rfl) (fun _ _ _ h => h) (Or.inl ⟨by rfl, fun wS hSw => ?_⟩) (by assumption) ?_
      · clear hHeld
        clear hSw
        go_simp
      try simp only [Act.put, List.setIfInBounds_toArray, List.set_cons_zero, List.set_cons_succ]
      refine wpAnyH_ready (rs := [3]) (by kernel_rfl) (by simp) ?_
      refine AllReadyH.cons (o := { dst := some 6, op := Op.assign (Operand.tmp 51), type := 27, pos := "ref.go:35", after := #[{ on := 0, ground := Ground.data }, { on := 0, ground := Ground.phase }, { on := 1, ground := Ground.textOnly Departure.lateStores }, { on := 2, ground := Ground.textOnly Departure.lateStores }], guard := none }) rfl (fun K hK => ?_) AllReadyH.nil
      clear hHeld
      go_simp
      refine hK.out _ _ q1 (fun hHeld => ?_)
      clear hK K
      try simp only [Act.put, List.setIfInBounds_toArray, List.set_cons_zero, List.set_cons_succ]
      refine wpAnyH_ready (rs := [4]) (by kernel_rfl) (by simp) ?_
      refine AllReadyH.cons (o := { dst := none, op := Op.store 33 (Operand.tmp 7) (Operand.tmp 52), type := 0, pos := "ref.go:35", after := #[{ on := 1, ground := Ground.data }, { on := 3, ground := Ground.chain }, { on := 0, ground := Ground.phase }, { on := 1, ground := Ground.phase }, { on := 2, ground := Ground.textOnly Departure.lateStores }, { on := 3, ground := Ground.phase }], guard := none }) rfl (fun K hK => ?_) AllReadyH.nil
      refine wp_store_row 33 _ _ rfl w.heap.size C rfl rfl 33 _ HQ0.out (infoLt C hCs) (by rw [hCs]; rfl) hC1 ?_
      have q2 : (wr.drew.setRow w.heap.size C).heap[w.heap.size + 1]? = some (.cells C 33 (0, 0)) := (setRow_other wr.drew w.heap.size (w.heap.size + 1) C (by omega)).trans q1
      refine hK.out _ _ q2 (fun hHeld => ?_)
      clear hK K
      try simp only [Act.put]
      refine wpAnyH_take (i := 5) (oi := { dst := some 8, op := Op.assign (Operand.tmp 53), type := 4, pos := "ref.go:35", after := #[{ on := 2, ground := Ground.data }, { on := 4, ground := Ground.chain }, { on := 0, ground := Ground.phase }, { on := 1, ground := Ground.phase }, { on := 2, ground := Ground.phase }, { on := 3, ground := Ground.phase }, { on := 4, ground := Ground.phase }], guard := none }) (v := .bool b) rfl (by kernel_rfl) (by kernel_rfl) (by kernel_rfl) (fun _ _ _ h => h) (Or.inl ⟨by rfl, fun wS hSw => ?_⟩) (by assumption) ?_
      · clear hHeld
        clear hSw
        go_simp
      try simp only [Act.put, List.setIfInBounds_toArray, List.set_cons_zero, List.set_cons_succ]
      clear hHeld
      refine wpAnyH_done (by kernel_rfl) ?_ _
      refine NoPanic.normal ?_
      go_wp2_with fail
      refine bodyPost_ret (v := .tuple #[.slice q9 N9 d9, .agg C, .bool b]) (ret_next rfl C hCs rfl rfl rfl (setRow_heap wr.drew _ _ _ _ _ HQ0.out)) rfl ?_
      exact HP.out _ (below_setRow (Below.refl _ _).drew (Nat.le_refl _) _) HO9.out

end Go.Proofs.Ytjcfbnhmljlkpaa
