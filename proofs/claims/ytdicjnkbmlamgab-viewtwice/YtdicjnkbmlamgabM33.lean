/- VwTake5, VwDo, VpDo. -/
import Derived.Test.YtdicjnkbmlamgabM28
import Derived.Test.YtdicjnkbmlamgabM21
import Derived.Test.YtdicjnkbmlamgabM32
import Derived.Test.YtdicjnkbmlamgabM24
namespace Go.Proofs.Ytdicjnkbmlamgab
open Go.RowKit
open Slot

theorem claim_cl {v : Vw} {n m : Nat} {p : Pk} (ho : ∀ t, v.own t ≤ 64) (hn : n < 64) (hm : m < 64) : clK v.cl n (wonK v.cl v.ep n p) m = (claimV v n p).cl m := by
  funext t
  symm
  have h64 := ho t
  show ((if p.cl t then (if v.own t = 64 ∨ v.own t = n ∨ v.ep (v.own t) < p.epoch then n else v.own t) else (if v.own t = n then 64 else v.own t)) == m) = (if m = n then wonK v.cl v.ep n p t else (v.own t == m) && !wonK v.cl v.ep n p t)
  rw [won_is v n p t h64]
  cases hc : p.cl t
  · simp only [Bool.false_eq_true, if_false, Bool.false_and, Bool.not_false, Bool.and_true]
    by_cases e : v.own t = n
    · rw [if_pos e]
      by_cases e2 : m = n
      · rw [if_pos e2, beq_eq_false_iff_ne]; omega
      · rw [if_neg e2, beq_eq_false_iff_ne.2 (show (64 : Nat) ≠ m by omega), beq_eq_false_iff_ne.2 (show v.own t ≠ m by omega)]
    · rw [if_neg e]
      by_cases e2 : m = n
      · rw [if_pos e2, beq_eq_false_iff_ne]; omega
      · rw [if_neg e2]
  · simp only [if_true, Bool.true_and]
    by_cases c : v.own t = 64 ∨ v.own t = n ∨ v.ep (v.own t) < p.epoch
    · rw [if_pos c, decide_eq_true c]
      by_cases e2 : m = n
      · rw [if_pos e2, e2, beq_self_eq_true]
      · rw [if_neg e2, beq_eq_false_iff_ne.2 (show n ≠ m by omega)]; simp
    · rw [if_neg c, decide_eq_false c]
      by_cases e2 : m = n
      · rw [if_pos e2, beq_eq_false_iff_ne]; omega
      · rw [if_neg e2]; simp
theorem take2_ep {v : Vw} {p : Pk} : cE v.ep (ofN p) p.epoch = (take2 v p).ep := by
  unfold cE take2
  by_cases h : v.ep (ofN p) ≤ p.epoch
  · rw [if_pos h, if_pos (show (take1 v p).ep (ofN p) ≤ p.epoch from h)]; rfl
  · rw [if_neg h, if_neg (show ¬ (take1 v p).ep (ofN p) ≤ p.epoch from h)]; rfl
theorem take2_cl {v : Vw} {p : Pk} {m : Nat} (ho : ∀ t, v.own t ≤ 64) (hn : ofN p < 64) (hm : m < 64) : cK v.ep v.cl (ofN p) p.epoch p m = (take2 v p).cl m := by
  unfold cK take2
  by_cases h : v.ep (ofN p) ≤ p.epoch
  · rw [if_pos h, if_pos (show (take1 v p).ep (ofN p) ≤ p.epoch from h)]; exact claim_cl (v := take1 v p) ho hn hm
  · rw [if_neg h, if_neg (show ¬ (take1 v p).ep (ofN p) ≤ p.epoch from h)]; rfl
theorem take3_ep {v : Vw} {p : Pk} (hk : p.kind ≠ 3) : rE (take2 v p).ep v.self (ofN p) p.epoch (max v.cur p.cur) = (take3 v p).ep := by
  have hs := take2_self v p
  have hc := take2_cur v p
  unfold rE take3
  by_cases h : p.epoch = (take2 v p).ep v.self ∧ v.self < ofN p
  · rw [if_pos h, if_pos ⟨hk, by rw [hs]; exact h.1, by rw [hs]; exact h.2⟩]
    funext m
    show _ = if m = (take2 v p).self then (take2 v p).cur + 1 else (take2 v p).ep m
    rw [hs, hc]
  · rw [if_neg h, if_neg (fun c => h ⟨by rw [← hs]; exact c.2.1, by rw [← hs]; exact c.2.2⟩)]
theorem take3_cur {v : Vw} {p : Pk} (hk : p.kind ≠ 3) : rM (take2 v p).ep v.self (ofN p) p.epoch (max v.cur p.cur) = (take3 v p).cur := by
  have hs := take2_self v p
  have hc := take2_cur v p
  unfold rM take3
  by_cases h : p.epoch = (take2 v p).ep v.self ∧ v.self < ofN p
  · rw [if_pos h, if_pos ⟨hk, by rw [hs]; exact h.1, by rw [hs]; exact h.2⟩]
    show _ = (take2 v p).cur + 1
    rw [hc]
  · rw [if_neg h, if_neg (fun c => h ⟨by rw [← hs]; exact c.2.1, by rw [← hs]; exact c.2.2⟩), hc]
theorem take3_cl (v : Vw) (p : Pk) : (take3 v p).cl = (take2 v p).cl := by
  unfold take3
  split <;> rfl
theorem take3_own64 {v : Vw} {p : Pk} (ho : ∀ t, v.own t ≤ 64) (hn : ofN p < 64) (t : Nat) : (take3 v p).own t ≤ 64 := by
  have e : (take3 v p).own = (take2 v p).own := by unfold take3; split <;> rfl
  rw [e]
  unfold take2
  split
  · show (if p.cl t then (if v.own t = 64 ∨ v.own t = ofN p ∨ v.ep (v.own t) < p.epoch then ofN p else v.own t) else (if v.own t = ofN p then 64 else v.own t)) ≤ 64
    have := ho t
    split <;> split <;> omega
  · exact ho t
theorem beat_lt {v : Vw} {p : Pk} (ho : ∀ t, v.own t ≤ 64) : ∀ (f k : Nat) {o : Nat}, beatV v p f k = some o → o < 64
  | 0, _, _, h => by cases h
  | f + 1, k, o, h => by
    unfold beatV at h
    by_cases c : worse v p k = true
    · rw [if_pos c] at h
      unfold worse at c
      simp only [Bool.and_eq_true, decide_eq_true_eq] at c
      have h1 := c.1.1.2
      have h2 := ho k
      have h3 := Option.some.inj h
      omega
    · rw [if_neg c] at h
      exact beat_lt ho f (k + 1) h
/-- what Take leaves, and answers -/
def RTakeP (me : Nat) (v : Vw) (p : Pk) (w : World) (e : Ending) (w' : World) : Prop :=
  ∃ g cap a, e = .returned (.tuple #[.agg (rvc me g cap (takeV v p).cur), a]) ∧ Nd w' g (takeV v p).ep (takeV v p).cl ∧ g < w'.heap.size ∧ OwnP w.heap.size w' a (answV v p) ∧ Below w.heap.size w w'
theorem take_oth (self g cap cur : Nat) (v : Vw) (p : Pk) (w : World) (hs : v.self = self) (hs64 : self < 64) (hcu : v.cur = cur) (hcb : cur < 9223372036854775807) (hown : ∀ t, v.own t ≤ 64) (hse : seen v p = true) (hk : p.kind ≠ 3) (hN : Nd w g v.ep v.cl) : Calls Try.prog 28 #[.agg (rvc self g cap cur), .agg (pkCells p)] w (RTakeP self v p w) := by
  obtain ⟨hr, hC, hF, hO⟩ := seen_right hse
  obtain ⟨hn, hfr, hf64, -, hec, -, -⟩ := right_of hr
  have hof2 : ofN p = p.frm.toNat := by unfold ofN; rw [if_neg hk]
  have hbig : big = 4611686018427387904 := rfl
  rw [hbig] at hC
  subst hs hcu
  have e2 := take2_ep (v := v) (p := p)
  have e3 := take3_ep (v := v) hk
  have e4 := take3_cur (v := v) hk
  have e5 : ∀ m, m < 64 → cK v.ep v.cl (ofN p) p.epoch p m = (take3 v p).cl m := fun m hm => by rw [take3_cl]; exact take2_cl hown hn hm
  have hT : takeV v p = take3 v p := by unfold takeV; rw [if_pos hse]
  have hs3 : (take3 v p).self = v.self := take3_self v p
  have ho3 := take3_own64 (v := v) (p := p) hown hn
  have hA : answV v p = outV (take3 v p) p := by unfold answV; rw [if_pos ⟨hse, hk⟩, hT]
  refine (take_oth_core v.self g cap v.cur (ofN p) p.cur p.epoch (max v.cur p.cur) p p.kind (p.kind == 1 || p.kind == 4) (beatI (take3 v p) p) v.ep v.cl (if (p.kind == 1 || p.kind == 4) = true then [tellV (take3 v p) 2] else []) (answV v p) w rfl rfl hk rfl (by rw [hof2, hfr]) rfl rfl hr hC ?_ hs64 hn hcb (by omega) ?_ ?_ ?_ ?_ hN).mono ?_
  · intro h
    exact hF (by rw [← hfr, ← hof2, h])
  · rw [e2, e3, e4, e5 _ hs64]
    unfold tellV
    rw [hs3]
  · split <;> simp
  · intro g' cap' W h
    rw [e2, e3] at h
    rw [e2, e4]
    exact rbeaten_any v.self g' cap' _ (take3 v p) p (ofN p) W ho3 (by rw [hof2, hfr]) (h.congr (fun _ _ => rfl) (fun m i hm _ => by rw [e5 m hm]))
  · rw [e2, e3, e4, hA]
    unfold outV
    have hz : (if p.kind = 1 ∨ p.kind = 4 then [tellV (take3 v p) 2] else []) = (if (p.kind == 1 || p.kind == 4) = true then [tellV (take3 v p) 2] else []) := by
      by_cases c : p.kind = 1 ∨ p.kind = 4
      · rw [if_pos c, if_pos (by simpa using c)]
      · rw [if_neg c, if_neg (by simpa using c)]
    rw [hz]
    cases hb : beatV (take3 v p) p top 0 with
    | none =>
      rw [beat_none hb]
      exact .inl ⟨by decide, by simp⟩
    | some o =>
      rw [beat_some hb]
      have ho := beat_lt ho3 _ _ hb
      refine .inr ⟨o, rfl, ho, ?_⟩
      rw [e5 o ho]
      unfold updV
      rw [hs3]
  · rintro e w' ⟨g', cap', a, rfl, hNd, hge, hop, hb⟩
    rw [e2, e3] at hNd
    refine ⟨g', cap', a, by rw [hT, e2, e4], ?_, hNd.lt, hop, hb⟩
    rw [hT]
    exact hNd.congr (fun _ _ => rfl) (fun m i hm _ => by rw [e5 m hm])
/-- the document's Take -/
theorem rtake_any (self g cap cur : Nat) (v : Vw) (p : Pk) (w : World) (hs : v.self = self) (hs64 : self < 64) (hcu : v.cur = cur) (hcb : cur < 9223372036854775807) (hown : ∀ t, v.own t ≤ 64) (hN : Nd w g v.ep v.cl) : Calls Try.prog 28 #[.agg (rvc self g cap cur), .agg (pkCells p)] w (RTakeP self v p w) := by
  cases hse : seen v p with
  | false =>
    have hT : takeV v p = v := by unfold takeV; rw [hse]; rfl
    have hA : answV v p = [] := by unfold answV; rw [hse, if_neg (fun c => Bool.false_ne_true c.1)]
    refine (take_no self g cap cur v p w hs hse).mono ?_
    rintro e w' ⟨rfl, hb⟩
    have hN' := hN.below hb hN.lt
    exact ⟨g, cap, .slice none 0 0, by rw [hT, hcu], by rw [hT]; exact hN', hN'.lt, by rw [hA]; exact ownp_nil _ _, hb⟩
  | true =>
    by_cases hk : p.kind = 3
    · have hA : answV v p = [] := by unfold answV; rw [if_neg (fun c => c.2 hk)]
      refine (take_upd self g cap cur v p w hs hcu hown hse hk hN).mono ?_
      rintro e w' ⟨g', cap', rfl, hNd, -, hb⟩
      exact ⟨g', cap', .slice none 0 0, rfl, hNd, hNd.lt, by rw [hA]; exact ownp_nil _ _, hb⟩
    · exact take_oth self g cap cur v p w hs hs64 hcu hcb hown hse hk hN

end Go.Proofs.Ytdicjnkbmlamgab

namespace Go.Proofs.Ytdicjnkbmlamgab
open Go.RowKit
open Slot

/-- what a call of the document leaves and answers: the view, and an error -/
def REndP (me : Nat) (v : Vw) (c : Int) (w : World) (e : Ending) (w' : World) : Prop :=
  ∃ g cap, e = .returned (.tuple #[.agg (rvc me g cap v.cur), .int .i64 c]) ∧ Nd w' g v.ep v.cl ∧ g < w'.heap.size ∧ Below w.heap.size w w'
theorem rwin_any (self g cap cur : Nat) (v : Vw) (s : Int) (l : Nat) (w : World) (hs : v.self = self) (hs64 : self < 64) (hcu : v.cur = cur) (hcb : cur < 9223372036854775807) (hN : Nd w g v.ep v.cl) :
    Calls Try.prog 29 #[.agg (rvc self g cap cur), .int .i64 s, .int .u64 (l : Int)] w (REndP self (if winE s l = 0 then winV v s.toNat l else v) (winE s l) w) := by
  subst hs hcu
  by_cases h : winE s l = 0
  · rw [h, if_pos rfl]
    have h2 : slotB s = true ∧ l ≤ big := by
      unfold winE at h
      by_cases c : slotB s = true ∧ l ≤ big
      · exact c
      · rw [if_neg c] at h; cases h
    have hb := of_decide_eq_true h2.1
    obtain ⟨k, rfl⟩ := Int.eq_ofNat_of_zero_le hb.1
    refine (win_yes v.self g cap v.cur k l v.ep v.cl w (by omega) hs64 h2.2 (by omega) hN).mono ?_
    rintro e w' ⟨g', cap', rfl, hNd, -, hbl⟩
    refine ⟨g', cap', rfl, ?_, hNd.lt, hbl⟩
    rw [Int.toNat_natCast]
    exact own_nd (v := { v with ep := fun m => if m = v.self then max v.cur l + 1 else v.ep m }) hNd
  · rw [if_neg h]
    refine (win_no v.self g cap v.cur l s w h).mono ?_
    rintro e w' ⟨rfl, hb⟩
    have hN' := hN.below hb hN.lt
    exact ⟨g, cap, rfl, hN', hN'.lt, hb⟩
theorem rgive_any (self g cap cur : Nat) (v : Vw) (s n : Int) (w : World) (hs : v.self = self) (hcu : v.cur = cur) (hN : Nd w g v.ep v.cl) :
    Calls Try.prog 30 #[.agg (rvc self g cap cur), .int .i64 s, .int .i64 n] w (REndP self (if giveE s n = 0 then ownV v s.toNat n.toNat else v) (giveE s n) w) := by
  subst hs hcu
  by_cases h : giveE s n = 0
  · rw [h, if_pos rfl]
    have h2 : slotB s = true ∧ (0 ≤ n ∧ n < 64) := by
      unfold giveE at h
      by_cases c : slotB s = true
      · rw [if_pos c] at h
        by_cases d : 0 ≤ n ∧ n < 64
        · exact ⟨c, d⟩
        · rw [if_neg d] at h; cases h
      · rw [if_neg c] at h; cases h
    have hb := of_decide_eq_true h2.1
    obtain ⟨k, rfl⟩ := Int.eq_ofNat_of_zero_le hb.1
    obtain ⟨m, rfl⟩ := Int.eq_ofNat_of_zero_le h2.2.1
    refine (give_yes v.self g cap v.cur k m v.ep v.cl w (by omega) (by omega) hN).mono ?_
    rintro e w' ⟨g', cap', rfl, hNd, -, hbl⟩
    exact ⟨g', cap', rfl, own_nd hNd, hNd.lt, hbl⟩
  · rw [if_neg h]
    refine (give_no v.self g cap v.cur s n _ w rfl h).mono ?_
    rintro e w' ⟨rfl, hb⟩
    have hN' := hN.below hb hN.lt
    exact ⟨g, cap, rfl, hN', hN'.lt, hb⟩
/-- a call as cells -/
def opCells (o : OpV) : Array Value := #[.int .i64 o.kind, .int .i64 o.slot, .int .i64 o.node, .int .u64 (o.least : Int)] ++ pkCells o.p
theorem opCells_size (o : OpV) : (opCells o).size = 265 := by simp [opCells, pkCells_size]
theorem opCells_one (o : OpV) : (opCells o).all (·.oneCell') = true := by
  unfold opCells
  rw [Array.all_append, onePk, Bool.and_true]
  simp [Value.oneCell']
def OBox (w : World) (b : Nat) (o : OpV) : Prop := w.heap[b]? = some (.cells (opCells o) 38 (0, 0))
theorem OBox.lt {w : World} {b : Nat} {o : OpV} (h : OBox w b o) : b < w.heap.size := (Array.getElem?_eq_some_iff.1 h).1
theorem op_lo (o : OpV) {i : Nat} (h : i < 4) : (opCells o)[i]? = (#[.int .i64 o.kind, .int .i64 o.slot, .int .i64 o.node, .int .u64 (o.least : Int)] : Array Value)[i]? := by
  unfold opCells; rw [Array.getElem?_append_left (by simpa using h)]
theorem OBox.cells {w : World} {b : Nat} {o : OpV} (h : OBox w b o) : w.cell? ⟨b, 0, none⟩ = some (.int .i64 o.kind) ∧ w.cell? ⟨b, 1, none⟩ = some (.int .i64 o.slot) ∧ w.cell? ⟨b, 2, none⟩ = some (.int .i64 o.node) ∧ w.cell? ⟨b, 3, none⟩ = some (.int .u64 (o.least : Int)) := by
  refine ⟨?_, ?_, ?_, ?_⟩ <;> rw [cell_of_row w b _ _ _ _ h, op_lo o (by decide)] <;> rfl
theorem OBox.pk {w : World} {b : Nat} {o : OpV} (h : OBox w b o) : w.rangeAt b 4 (pkCells o.p).toList := fun j v hv => by
  rw [cell_of_row w b _ _ _ _ h]
  unfold opCells
  rw [Array.getElem?_append_right (by simp)]
  rw [Array.getElem?_toList] at hv
  simpa using hv
theorem infoOp (o : OpV) : (Try.prog.info? 38).map (·.size) = some (opCells o).size := by rw [opCells_size]; kernel_rfl
theorem toArrP (p : Pk) : (pkCells p).toList.toArray = pkCells p := Array.toArray_toList
/-- a call of Do on its way -/
structure Dok (w wr : World) (me g cap cur : Nat) (o : OpV) : Prop where
  bel : Below w.heap.size w wr
  rv : RVb wr w.heap.size me g cap cur
  op : OBox wr (w.heap.size + 1) o
  res : wr.heap[w.heap.size + 2]? = some (.cells #[.int .i64 0, .slice none 0 0, .int .u64 0] 33 (0, 0))
theorem Dok.lt {w wr : World} {me g cap cur : Nat} {o : OpV} (h : Dok w wr me g cap cur o) : w.heap.size + 2 < wr.heap.size := (Array.getElem?_eq_some_iff.1 h.res).1
theorem Dok.call {w wr w' : World} {me g cap cur : Nat} {o : OpV} (h : Dok w wr me g cap cur o) (hb : Below wr.heap.size wr w') : Dok w w' me g cap cur o :=
  ⟨h.bel.trans (hb.mono h.bel.size), (hb.block _ h.rv.lt).trans h.rv, (hb.block _ h.op.lt).trans h.op, (hb.block _ h.lt).trans h.res⟩
theorem dok_new (w : World) (me g cap cur : Nat) (o : OpV) : Dok w (((w.alloc (.cells (rvc me g cap cur) 33)).alloc (.cells (opCells o) 38)).alloc (.cells #[.int .i64 0, .slice none 0 0, .int .u64 0] 33)) me g cap cur o := by
  have h1 := below_alloc w (.cells (rvc me g cap cur) 33)
  have h2 := below_alloc (w.alloc (.cells (rvc me g cap cur) 33)) (.cells (opCells o) 38)
  have h3 := below_alloc ((w.alloc (.cells (rvc me g cap cur) 33)).alloc (.cells (opCells o) 38)) (.cells #[.int .i64 0, .slice none 0 0, .int .u64 0] 33)
  have e1 : (w.alloc (.cells (rvc me g cap cur) 33)).heap.size = w.heap.size + 1 := by simp
  have e2 : ((w.alloc (.cells (rvc me g cap cur) 33)).alloc (.cells (opCells o) 38)).heap.size = w.heap.size + 2 := by simp
  refine ⟨((below_alloc w _).alloc (by simp) _).alloc (by simp; omega) _, ?_, ?_, ?_⟩
  · exact (h3.block _ (by omega)).trans (heap_alloc2_old w _ _)
  · exact (h3.block _ (by omega)).trans (heap_alloc2_new w _ _)
  · have := heap_alloc_new ((w.alloc (.cells (rvc me g cap cur) 33)).alloc (.cells (opCells o) 38)) (.cells #[.int .i64 0, .slice none 0 0, .int .u64 0] 33)
    rwa [e2] at this
/-- what Do leaves and answers -/
def RDoP (me : Nat) (v : Vw) (o : OpV) (w : World) (e : Ending) (w' : World) : Prop :=
  ∃ g cap a, e = .returned (.tuple #[.agg (rvc me g cap (doV v o).cur), a, .int .i64 (doE o)]) ∧ Nd w' g (doV v o).ep (doV v o).cl ∧ g < w'.heap.size ∧ OwnP w.heap.size w' a (doA v o) ∧ Below w.heap.size w w'
theorem ret_rv4 {fn : Func} {p q r : Tmp} (h : fn.results = #[.cell p 33, .tmp q, .tmp r]) {tmps : Array Value} {w : World} {b self g cap cur : Nat} {v x : Value} (hp : tmps.getD p undef = .pointer (some ⟨b, 0, none⟩)) (hq : tmps.getD q undef = v) (hr : tmps.getD r undef = x) (hB : RVb w b self g cap cur) :
    (results fn tmps).run Try.prog w = .ok (.tuple #[.agg (rvc self g cap cur), v, x]) w := by
  have hp' : tmps[p]?.getD undef = .pointer (some ⟨b, 0, none⟩) := by simpa using hp
  have hq' : tmps[q]?.getD undef = v := by simpa using hq
  have hr' : tmps[r]?.getD undef = x := by simpa using hr
  simp [results, h, hp', hq', hr', asAddr, run_loadVar_row w b 33 33 (rvc self g cap cur) (0, 0) _ hB Try.underlying33 rfl (infoRV rfl)]

set_option maxHeartbeats 8000000 in
set_option maxRecDepth 100000 in
theorem rdo_any (self g cap cur : Nat) (v : Vw) (o : OpV) (w : World) (hs : v.self = self) (hs64 : self < 64) (hcu : v.cur = cur) (hcb : cur < 9223372036854775807) (hown : ∀ t, v.own t ≤ 64) (hN : Nd w g v.ep v.cl) : Calls Try.prog 15 #[.agg (rvc self g cap cur), .agg (opCells o)] w (RDoP self v o w) := by
  have HD0 := hid (dok_new w self g cap cur o)
  have HN0 := hid (hN.below HD0.out.bel hN.lt)
  have HT := hid (fun W h => rtake_any self g cap cur v o.p W hs hs64 hcu hcb hown h)
  have HW := hid (fun W h => rwin_any self g cap cur v o.slot o.least W hs hs64 hcu hcb h)
  have HG := hid (fun W h => rgive_any self g cap cur v o.slot o.node W hs hcu h)
  have HV0 := hid (fun (h : o.kind = 0) => show doV v o = takeV v o.p ∧ doA v o = answV v o.p ∧ doE o = 0 from ⟨by unfold doV; rw [if_pos h], by unfold doA; rw [if_pos h], by unfold doE; rw [if_neg (by omega), if_neg (by omega)]⟩)
  have HV1 := hid (fun (h : o.kind = 1) => show doV v o = (if winE o.slot o.least = 0 then winV v o.slot.toNat o.least else v) ∧ doA v o = [] ∧ doE o = winE o.slot o.least from ⟨by unfold doV; rw [if_neg (by omega), if_pos h], by unfold doA; rw [if_neg (by omega)], by unfold doE; rw [if_pos h]⟩)
  have HV2 := hid (fun (h : o.kind = 2) => show doV v o = (if giveE o.slot o.node = 0 then ownV v o.slot.toNat o.node.toNat else v) ∧ doA v o = [] ∧ doE o = giveE o.slot o.node from ⟨by unfold doV; rw [if_neg (by omega), if_neg (by omega), if_pos h], by unfold doA; rw [if_neg (by omega)], by unfold doE; rw [if_neg (by omega), if_pos h]⟩)
  have HV3 := hid (fun (h : o.kind ≠ 0 ∧ o.kind ≠ 1 ∧ o.kind ≠ 2) => show doV v o = v ∧ doA v o = [] ∧ doE o = 0 from ⟨by unfold doV; rw [if_neg h.1, if_neg h.2.1, if_neg h.2.2], by unfold doA; rw [if_neg h.1], by unfold doE; rw [if_neg h.2.1, if_neg h.2.2]⟩)
  have HNv := hid hcu
  have iP : (Try.prog.info? 29).map (·.size) = some (pkCells o.p).toList.length := infoPl o.p
  have hPl := toArrP o.p
  obtain ⟨PC, hPC⟩ : ∃ C, pkCells o.p = C := ⟨_, rfl⟩
  have HPk : Hid (∀ W b, OBox W b o → W.rangeAt b 4 PC.toList) := fun W b h => by rw [← hPC]; exact h.pk
  rw [hPC] at HT iP hPl
  clear hPC
  obtain ⟨OC, hOC⟩ : ∃ C, opCells o = C := ⟨_, rfl⟩
  rw [hOC] at HD0 HN0 ⊢
  obtain ⟨RC, hRC⟩ : ∃ C, rvc self g cap cur = C := ⟨_, rfl⟩
  have iR : (Try.prog.info? 33).map (·.size) = some RC.size := by rw [← hRC]; exact infoRV rfl
  have oR : RC.all (·.oneCell') = true := by rw [← hRC]; exact rvc_one _ _ _ _
  have HRv : Hid (∀ W b, RVb W b self g cap cur → W.heap[b]? = some (.cells RC 33 (0, 0))) := fun W b h => by rw [← hRC]; exact h
  have HRw : Hid (∀ W b, W.heap[b]? = some (.cells RC 33 (0, 0)) → RVb W b self g cap cur) := fun W b h => by unfold RVb; rw [hRC]; exact h
  have HRs : Hid (RC.size = 3) := by rw [← hRC]; rfl
  rw [hRC] at HD0 HN0 HT HW HG ⊢
  clear hRC hOC hN hown hcb hs64 hs hcu
  generalize hk : o.kind = KD at *
  go_enter Try.func15, Try.ntmps15
  go_upto_region 1 with fail
  generalize (((w.alloc (.cells RC 33)).alloc (.cells OC 38)).alloc (.cells #[.int .i64 0, .slice none 0 0, .int .u64 0] 33)) = w2 at *
  obtain ⟨p0, p1, p2, p3⟩ := HD0.out.op.cells
  rw [hk] at p0
  have HL0 := hid HD0.out.lt
  have HRv0 := hid (HRv.out _ _ HD0.out.rv)
  have HPr := hid (HPk.out _ _ HD0.out.op)
  have hz3 : (#[.int .i64 0, .slice none 0 0, .int .u64 0] : Array Value).size = RC.size := HRs.out.symm

  by_cases k0 : KD = 0
  · obtain ⟨e1, e2, e3⟩ := HV0.out k0
    have HE1 := hid e1
    have HE2 := hid e2
    have HE3 := hid e3
    clear e1 e2 e3
    subst k0
    have HC := hid (HT.out _ HN0.out)
    go_wp2_with (first | (refine wpList_load_row rfl 33 _ rfl w.heap.size rfl 33 _ (0, 0) _ HRv0.out Try.underlying33 rfl iR ?_) | (refine wpList_load_mid rfl 29 _ rfl (w.heap.size + 1) 4 rfl _ _ HPr.out Try.underlying29 rfl iP ?_; rw [hPl]))
    refine HC.out.mono ?_; rintro e w3 ⟨g', cap', a, rfl, hNd, hlt, hop, hb⟩
    have HD3 := hid (HD0.out.call hb)
    have HOp := hid hop
    clear hop
    have HB3 := hid hb
    clear hb
    have HZ := hid (heap_alloc_new w3 (.cells #[.int .i64 0, .slice none 0 0, .int .u64 0] 33))
    have HBz := hid (below_alloc w3 (.cells #[.int .i64 0, .slice none 0 0, .int .u64 0] 33))
    obtain ⟨R2, hR2⟩ : ∃ C, rvc self g' cap' (takeV v o.p).cur = C := ⟨_, rfl⟩
    have i2 : (Try.prog.info? 33).map (·.size) = some R2.size := by rw [← hR2]; exact infoRV rfl
    have o2 : R2.all (·.oneCell') = true := by rw [← hR2]; exact rvc_one _ _ _ _
    have z2 : (#[.int .i64 0, .slice none 0 0, .int .u64 0] : Array Value).size = R2.size := by rw [← hR2]; rfl
    rw [hR2]
    have HR2 := hid hR2
    have HG3 := hid hlt
    have HN3 := hid hNd
    clear hR2 hNd hlt p0 p1 p2 p3
    have HL3 := hid HD3.out.lt
    have HA := hid (setRow_heap _ _ _ R2 _ _ HZ.out)
    have HS3 : Hid (((w3.alloc (.cells #[.int .i64 0, .slice none 0 0, .int .u64 0] 33)).setRow w3.heap.size R2).heap[w.heap.size + 2]? = some (.cells #[.int .i64 0, .slice none 0 0, .int .u64 0] 33 (0, 0))) :=
      (setRow_other _ _ _ _ (by have := HL3.out; omega)).trans ((HBz.out.block _ HL3.out).trans HD3.out.res)
    go_wp2_with (first | (refine wpList_store_row rfl 33 _ _ rfl w3.heap.size R2 rfl rfl 33 _ HZ.out i2 z2 o2 ?_) | (refine wpList_load_row rfl 33 _ rfl w3.heap.size rfl 33 _ (0, 0) _ HA.out Try.underlying33 rfl i2 ?_) | (refine wpList_store_row rfl 33 _ _ rfl (w.heap.size + 2) R2 rfl rfl 33 _ HS3.out i2 z2 o2 ?_))
    refine bodyPost_ret (v := .tuple #[.agg (rvc self g' cap' (takeV v o.p).cur), a, .int .i64 0]) ?_ rfl ?_
    · exact ret_rv4 rfl rfl rfl rfl (by show _ = _; rw [HR2.out]; exact setRow_heap _ _ _ _ _ _ HS3.out)
    · have hB : Below w.heap.size w (((w3.alloc (.cells #[.int .i64 0, .slice none 0 0, .int .u64 0] 33)).setRow w3.heap.size R2).setRow (w.heap.size + 2) R2) := below_setRow (below_setRow (HD3.out.bel.trans (HBz.out.mono HD3.out.bel.size)) (by have := HL3.out; omega) _) (by omega) _
      have hblk : ∀ k, k ≠ w.heap.size + 2 → k < w3.heap.size → (((w3.alloc (.cells #[.int .i64 0, .slice none 0 0, .int .u64 0] 33)).setRow w3.heap.size R2).setRow (w.heap.size + 2) R2).heap[k]? = w3.heap[k]? := fun k h1 h2 => (setRow_other _ _ _ _ h1).trans ((setRow_other _ _ _ _ (by omega)).trans (HBz.out.block k h2))
      have hgn : g' ≠ w.heap.size + 2 := fun e => by
        obtain ⟨C, hC, -⟩ := HN3.out
        rw [e, HD3.out.res] at hC
        injection hC with h1
        injection h1 with h2 h3
        cases h3
      have hN' := HN3.out.turn (hblk g' hgn HG3.out)
      refine ⟨g', cap', a, by rw [HE1.out, HE3.out], by rw [HE1.out]; exact hN', hN'.lt, ?_, hB⟩
      rw [HE2.out]
      refine (HOp.out.turn (fun k h1 h2 => hblk k (by have := HL0.out; omega) h2)).mono (Nat.le_trans (by omega) (Nat.le_of_lt HL0.out))
  by_cases k1 : KD = 1
  · obtain ⟨e1, e2, e3⟩ := HV1.out k1
    have HE1 := hid e1
    have HE2 := hid e2
    have HE3 := hid e3
    clear e1 e2 e3
    subst k1
    have HC := hid (HW.out _ HN0.out)
    have hnn : ∃ V, (if winE o.slot o.least = 0 then winV v o.slot.toNat o.least else v) = V := ⟨_, rfl⟩
    obtain ⟨V, hV⟩ := hnn
    rw [hV] at HC HE1
    clear hV
    obtain ⟨CE, hCE⟩ : ∃ x, winE o.slot o.least = x := ⟨_, rfl⟩
    rw [hCE] at HC HE3
    clear hCE
    go_wp2_with (first | (refine wpList_load_row rfl 33 _ rfl w.heap.size rfl 33 _ (0, 0) _ HRv0.out Try.underlying33 rfl iR ?_) | (refine wpList_load_mid rfl 29 _ rfl (w.heap.size + 1) 4 rfl _ _ HPr.out Try.underlying29 rfl iP ?_; rw [hPl]))
    refine HC.out.mono ?_; rintro e w3 ⟨g', cap', rfl, hNd, hlt, hb⟩
    have HD3 := hid (HD0.out.call hb)
    have HB3 := hid hb
    clear hb
    have HZ := hid (heap_alloc_new w3 (.cells #[.int .i64 0, .slice none 0 0, .int .u64 0] 33))
    have HBz := hid (below_alloc w3 (.cells #[.int .i64 0, .slice none 0 0, .int .u64 0] 33))
    obtain ⟨R2, hR2⟩ : ∃ C, rvc self g' cap' V.cur = C := ⟨_, rfl⟩
    have i2 : (Try.prog.info? 33).map (·.size) = some R2.size := by rw [← hR2]; exact infoRV rfl
    have o2 : R2.all (·.oneCell') = true := by rw [← hR2]; exact rvc_one _ _ _ _
    have z2 : (#[.int .i64 0, .slice none 0 0, .int .u64 0] : Array Value).size = R2.size := by rw [← hR2]; rfl
    rw [hR2]
    have HR2 := hid hR2
    have HG3 := hid hlt
    have HN3 := hid hNd
    clear hR2 hNd hlt p0 p1 p2 p3
    have HL3 := hid HD3.out.lt
    have HA := hid (setRow_heap _ _ _ R2 _ _ HZ.out)
    have HS3 : Hid (((w3.alloc (.cells #[.int .i64 0, .slice none 0 0, .int .u64 0] 33)).setRow w3.heap.size R2).heap[w.heap.size + 2]? = some (.cells #[.int .i64 0, .slice none 0 0, .int .u64 0] 33 (0, 0))) :=
      (setRow_other _ _ _ _ (by have := HL3.out; omega)).trans ((HBz.out.block _ HL3.out).trans HD3.out.res)
    go_wp2_with (first | (refine wpList_store_row rfl 33 _ _ rfl w3.heap.size R2 rfl rfl 33 _ HZ.out i2 z2 o2 ?_) | (refine wpList_load_row rfl 33 _ rfl w3.heap.size rfl 33 _ (0, 0) _ HA.out Try.underlying33 rfl i2 ?_) | (refine wpList_store_row rfl 33 _ _ rfl (w.heap.size + 2) R2 rfl rfl 33 _ HS3.out i2 z2 o2 ?_))
    refine bodyPost_ret (v := .tuple #[.agg (rvc self g' cap' V.cur), .slice none 0 0, .int .i64 CE]) ?_ rfl ?_
    · exact ret_rv4 rfl rfl rfl rfl (by show _ = _; rw [HR2.out]; exact setRow_heap _ _ _ _ _ _ HS3.out)
    · have hB : Below w.heap.size w (((w3.alloc (.cells #[.int .i64 0, .slice none 0 0, .int .u64 0] 33)).setRow w3.heap.size R2).setRow (w.heap.size + 2) R2) := below_setRow (below_setRow (HD3.out.bel.trans (HBz.out.mono HD3.out.bel.size)) (by have := HL3.out; omega) _) (by omega) _
      have hblk : ∀ k, k ≠ w.heap.size + 2 → k < w3.heap.size → (((w3.alloc (.cells #[.int .i64 0, .slice none 0 0, .int .u64 0] 33)).setRow w3.heap.size R2).setRow (w.heap.size + 2) R2).heap[k]? = w3.heap[k]? := fun k h1 h2 => (setRow_other _ _ _ _ h1).trans ((setRow_other _ _ _ _ (by omega)).trans (HBz.out.block k h2))
      have hgn : g' ≠ w.heap.size + 2 := fun e => by
        obtain ⟨C, hC, -⟩ := HN3.out
        rw [e, HD3.out.res] at hC
        injection hC with h1
        injection h1 with h2 h3
        cases h3
      have hN' := HN3.out.turn (hblk g' hgn HG3.out)
      refine ⟨g', cap', .slice none 0 0, by rw [HE1.out, HE3.out], by rw [HE1.out]; exact hN', hN'.lt, ?_, hB⟩
      rw [HE2.out]
      exact ownp_nil _ _
  by_cases k2 : KD = 2
  · obtain ⟨e1, e2, e3⟩ := HV2.out k2
    have HE1 := hid e1
    have HE2 := hid e2
    have HE3 := hid e3
    clear e1 e2 e3
    subst k2
    have HC := hid (HG.out _ HN0.out)
    have hnn : ∃ V, (if giveE o.slot o.node = 0 then ownV v o.slot.toNat o.node.toNat else v) = V := ⟨_, rfl⟩
    obtain ⟨V, hV⟩ := hnn
    rw [hV] at HC HE1
    clear hV
    obtain ⟨CE, hCE⟩ : ∃ x, giveE o.slot o.node = x := ⟨_, rfl⟩
    rw [hCE] at HC HE3
    clear hCE
    go_wp2_with (first | (refine wpList_load_row rfl 33 _ rfl w.heap.size rfl 33 _ (0, 0) _ HRv0.out Try.underlying33 rfl iR ?_) | (refine wpList_load_mid rfl 29 _ rfl (w.heap.size + 1) 4 rfl _ _ HPr.out Try.underlying29 rfl iP ?_; rw [hPl]))
    refine HC.out.mono ?_; rintro e w3 ⟨g', cap', rfl, hNd, hlt, hb⟩
    have HD3 := hid (HD0.out.call hb)
    have HB3 := hid hb
    clear hb
    have HZ := hid (heap_alloc_new w3 (.cells #[.int .i64 0, .slice none 0 0, .int .u64 0] 33))
    have HBz := hid (below_alloc w3 (.cells #[.int .i64 0, .slice none 0 0, .int .u64 0] 33))
    obtain ⟨R2, hR2⟩ : ∃ C, rvc self g' cap' V.cur = C := ⟨_, rfl⟩
    have i2 : (Try.prog.info? 33).map (·.size) = some R2.size := by rw [← hR2]; exact infoRV rfl
    have o2 : R2.all (·.oneCell') = true := by rw [← hR2]; exact rvc_one _ _ _ _
    have z2 : (#[.int .i64 0, .slice none 0 0, .int .u64 0] : Array Value).size = R2.size := by rw [← hR2]; rfl
    rw [hR2]
    have HR2 := hid hR2
    have HG3 := hid hlt
    have HN3 := hid hNd
    clear hR2 hNd hlt p0 p1 p2 p3
    have HL3 := hid HD3.out.lt
    have HA := hid (setRow_heap _ _ _ R2 _ _ HZ.out)
    have HS3 : Hid (((w3.alloc (.cells #[.int .i64 0, .slice none 0 0, .int .u64 0] 33)).setRow w3.heap.size R2).heap[w.heap.size + 2]? = some (.cells #[.int .i64 0, .slice none 0 0, .int .u64 0] 33 (0, 0))) :=
      (setRow_other _ _ _ _ (by have := HL3.out; omega)).trans ((HBz.out.block _ HL3.out).trans HD3.out.res)
    go_wp2_with (first | (refine wpList_store_row rfl 33 _ _ rfl w3.heap.size R2 rfl rfl 33 _ HZ.out i2 z2 o2 ?_) | (refine wpList_load_row rfl 33 _ rfl w3.heap.size rfl 33 _ (0, 0) _ HA.out Try.underlying33 rfl i2 ?_) | (refine wpList_store_row rfl 33 _ _ rfl (w.heap.size + 2) R2 rfl rfl 33 _ HS3.out i2 z2 o2 ?_))
    refine bodyPost_ret (v := .tuple #[.agg (rvc self g' cap' V.cur), .slice none 0 0, .int .i64 CE]) ?_ rfl ?_
    · exact ret_rv4 rfl rfl rfl rfl (by show _ = _; rw [HR2.out]; exact setRow_heap _ _ _ _ _ _ HS3.out)
    · have hB : Below w.heap.size w (((w3.alloc (.cells #[.int .i64 0, .slice none 0 0, .int .u64 0] 33)).setRow w3.heap.size R2).setRow (w.heap.size + 2) R2) := below_setRow (below_setRow (HD3.out.bel.trans (HBz.out.mono HD3.out.bel.size)) (by have := HL3.out; omega) _) (by omega) _
      have hblk : ∀ k, k ≠ w.heap.size + 2 → k < w3.heap.size → (((w3.alloc (.cells #[.int .i64 0, .slice none 0 0, .int .u64 0] 33)).setRow w3.heap.size R2).setRow (w.heap.size + 2) R2).heap[k]? = w3.heap[k]? := fun k h1 h2 => (setRow_other _ _ _ _ h1).trans ((setRow_other _ _ _ _ (by omega)).trans (HBz.out.block k h2))
      have hgn : g' ≠ w.heap.size + 2 := fun e => by
        obtain ⟨C, hC, -⟩ := HN3.out
        rw [e, HD3.out.res] at hC
        injection hC with h1
        injection h1 with h2 h3
        cases h3
      have hN' := HN3.out.turn (hblk g' hgn HG3.out)
      refine ⟨g', cap', .slice none 0 0, by rw [HE1.out, HE3.out], by rw [HE1.out]; exact hN', hN'.lt, ?_, hB⟩
      rw [HE2.out]
      exact ownp_nil _ _
  obtain ⟨e1, e2, e3⟩ := HV3.out ⟨k0, k1, k2⟩
  have HE1 := hid e1
  have HE2 := hid e2
  have HE3 := hid e3
  clear e1 e2 e3
  have k0b : (KD == 0) = false := beq_eq_false_iff_ne.2 k0
  have k1b : (KD == 1) = false := beq_eq_false_iff_ne.2 k1
  have k2b : (KD == 2) = false := beq_eq_false_iff_ne.2 k2
  have HS2 := hid HD0.out.res
  go_wp2_with (first | (refine wpList_load_row rfl 33 _ rfl w.heap.size rfl 33 _ (0, 0) _ HRv0.out Try.underlying33 rfl iR ?_) | (refine wpList_store_row rfl 33 _ _ rfl (w.heap.size + 2) RC rfl rfl 33 _ HS2.out iR hz3 oR ?_))
  refine bodyPost_ret (v := .tuple #[.agg (rvc self g cap cur), .slice none 0 0, .int .i64 0]) ?_ rfl ?_
  · exact ret_rv4 rfl rfl rfl rfl (HRw.out _ _ (setRow_heap _ _ _ _ _ _ HS2.out))
  · have hgn : g ≠ w.heap.size + 2 := fun e => by
      obtain ⟨C, hC, -⟩ := HN0.out
      rw [e, HD0.out.res] at hC
      injection hC with h1
      injection h1 with h2 h3
      cases h3
    have hN' := HN0.out.turn (setRow_other w2 (w.heap.size + 2) g RC hgn)
    refine ⟨g, cap, .slice none 0 0, by rw [HE1.out, HE3.out, HNv.out], by rw [HE1.out]; exact hN', hN'.lt, ?_, below_setRow HD0.out.bel (by omega) _⟩
    rw [HE2.out]
    exact ownp_nil _ _

end Go.Proofs.Ytdicjnkbmlamgab

namespace Go.Proofs.Ytdicjnkbmlamgab
open Go.RowKit
open Slot

theorem seen_not (v : Vw) (p : Pk) : (!seen v p) = (!rightP p || decide (4611686018427387904 < p.cur) || p.frm == (v.self : Int) || clI p == (v.self : Int)) := by
  unfold seen clI
  have hb : decide (p.cur ≤ big) = !decide (4611686018427387904 < p.cur) := by
    have e : big = 4611686018427387904 := rfl
    by_cases c : p.cur ≤ big
    · rw [decide_eq_true c, decide_eq_false (by omega)]; rfl
    · rw [decide_eq_false c, decide_eq_true (by omega)]; rfl
  rw [hb]
  cases rightP p
  · simp
  · cases decide (4611686018427387904 < p.cur)
    · by_cases c1 : p.frm = (v.self : Int)
      · simp [c1]
      · by_cases c2 : p.kind = 3
        · by_cases c3 : p.of_ = (v.self : Int)
          · simp [c2, c3]
          · simp [c1, c2, c3]
        · simp [c1, c2]
    · simp
theorem cl_of {p : Pk} (h : rightP p = true) : clI p = (ofN p : Int) := by
  obtain ⟨_, h2, _, h4, _⟩ := right_of h
  unfold clI ofN
  split
  · exact h4.symm
  · exact h2.symm
theorem ptake_any (b : Nat) (v : Vw) (p : Pk) (w : World) (hV : VB w b v) (hO : v.Ok 1000000) : Calls Try.prog 7 #[.pointer (some ⟨b, 0, none⟩), .agg (pkCells p)] w (PTakeP b v p w) := by
  refine ptake_core b v.self p.cur p.epoch (ofN p) v p (rightP p) (!seen v p) p.kind p.frm (clI p) w hV rfl rfl rfl rfl rfl rfl rfl (seen_not v p) (fun h => by simpa using h) (fun h => ?_) hO
  have hs : seen v p = true := by simpa using h
  have hr := (seen_right hs).1
  exact ⟨hs, cl_of hr, rfl, (right_of hr).1⟩
/-- what does leaves and answers -/
def PDoP (b : Nat) (v : Vw) (o : OpV) (w : World) (e : Ending) (w' : World) : Prop :=
  ∃ a, e = .returned (.tuple #[a, .int .i64 (doE o)]) ∧ OwnP w.heap.size w' a (doA v o) ∧ VB w' b (doV v o) ∧ Only b w w'
set_option maxHeartbeats 4000000 in
set_option maxRecDepth 100000 in
theorem pdo_any (b : Nat) (v : Vw) (o : OpV) (w : World) (hV : VB w b v) (hO : v.Ok 1000000) : Calls Try.prog 16 #[.pointer (some ⟨b, 0, none⟩), .agg (opCells o)] w (PDoP b v o w) := by
  have hw := hV.lt
  have hbig : big = 4611686018427387904 := rfl
  have HW1 := hid (below_alloc w (.cells (opCells o) 38))
  have HB1 : Hid (OBox (w.alloc (.cells (opCells o) 38)) w.heap.size o) := heap_alloc_new w _
  have HV1 := hid (hV.below HW1.out hw)
  have HN1 : Hid (w.heap.size ≤ (w.alloc (.cells (opCells o) 38)).heap.size) := HW1.out.size
  have HT := hid (fun W h => ptake_any b v o.p W h hO)
  have HWn := hid (fun W h => win_any b v o.slot o.least W h hO.self (by have := hO.cur; omega))
  have HGv := hid (fun W h => give_any b v o.slot o.node W h)
  have HE0 := hid (fun (h : o.kind = 0) => show doV v o = takeV v o.p ∧ doA v o = answV v o.p ∧ doE o = 0 from ⟨by unfold doV; rw [if_pos h], by unfold doA; rw [if_pos h], by unfold doE; rw [if_neg (by omega), if_neg (by omega)]⟩)
  have HE1 := hid (fun (h : o.kind = 1) => show doV v o = (if winE o.slot o.least = 0 then winV v o.slot.toNat o.least else v) ∧ doA v o = [] ∧ doE o = winE o.slot o.least from ⟨by unfold doV; rw [if_neg (by omega), if_pos h], by unfold doA; rw [if_neg (by omega)], by unfold doE; rw [if_pos h]⟩)
  have HE2 := hid (fun (h : o.kind = 2) => show doV v o = (if giveE o.slot o.node = 0 then ownV v o.slot.toNat o.node.toNat else v) ∧ doA v o = [] ∧ doE o = giveE o.slot o.node from ⟨by unfold doV; rw [if_neg (by omega), if_neg (by omega), if_pos h], by unfold doA; rw [if_neg (by omega)], by unfold doE; rw [if_neg (by omega), if_pos h]⟩)
  have HE3 := hid (fun (h : o.kind ≠ 0 ∧ o.kind ≠ 1 ∧ o.kind ≠ 2) => show doV v o = v ∧ doA v o = [] ∧ doE o = 0 from ⟨by unfold doV; rw [if_neg h.1, if_neg h.2.1, if_neg h.2.2], by unfold doA; rw [if_neg h.1], by unfold doE; rw [if_neg h.2.1, if_neg h.2.2]⟩)
  have HOn : Hid (∀ W' w', Only b W' w' → Below w.heap.size w W' → Only b w w') := fun W' w' h1 h2 => (Only.of_below h2).trans h1
  have iP : (Try.prog.info? 29).map (·.size) = some (pkCells o.p).toList.length := infoPl o.p
  have hPl := toArrP o.p
  have HPr : Hid ((w.alloc (.cells (opCells o) 38)).rangeAt w.heap.size 4 (pkCells o.p).toList) := HB1.out.pk
  obtain ⟨PC, hPC⟩ : ∃ C, pkCells o.p = C := ⟨_, rfl⟩
  rw [hPC] at HT iP hPl HPr
  clear hPC
  obtain ⟨OC, hOC⟩ : ∃ C, opCells o = C := ⟨_, rfl⟩
  rw [hOC] at HW1 HB1 HV1 HN1 HPr ⊢
  obtain ⟨p0, p1, p2, p3⟩ := HB1.out.cells
  generalize hk : o.kind = KD at *
  clear hOC hV hO hw
  go_enter Try.func16, Try.ntmps16
  go_upto_region 1 with fail
  generalize w.alloc (.cells OC 38) = w1 at *
  by_cases k0 : KD = 0
  · subst k0
    obtain ⟨e1, e2, e3⟩ := HE0.out rfl
    have HQ := hid (And.intro e1 (And.intro e2 e3))
    clear e1 e2 e3
    go_wp2_with (refine wpList_load_mid rfl 29 _ rfl w.heap.size 4 rfl _ _ HPr.out Try.underlying29 rfl iP ?_; rw [hPl])
    refine (HT.out _ HV1.out).mono ?_; rintro e w2 ⟨a, rfl, ho, hv, hon⟩
    have HP2 := hid (ho.mono HN1.out)
    have HV2 := hid hv
    have HO2 := hid (HOn.out _ _ hon HW1.out)
    clear ho hv hon
    go_wp2_with fail
    go_ret2
    exact ⟨a, by rw [HQ.out.2.2]; rfl, by rw [HQ.out.2.1]; exact HP2.out, by rw [HQ.out.1]; exact HV2.out, HO2.out⟩
  have k0b : (KD == 0) = false := beq_eq_false_iff_ne.2 k0
  by_cases k1 : KD = 1
  · subst k1
    obtain ⟨e1, e2, e3⟩ := HE1.out rfl
    have HQ := hid (And.intro e1 (And.intro e2 e3))
    clear e1 e2 e3
    go_wp2_with fail
    refine (HWn.out _ HV1.out).mono ?_; rintro e w2 ⟨rfl, hv, hon⟩
    have HV2 := hid hv
    have HO2 := hid (HOn.out _ _ hon HW1.out)
    clear hv hon
    go_wp2_with fail
    go_ret2
    exact ⟨_, by rw [HQ.out.2.2]; rfl, by rw [HQ.out.2.1]; exact ownp_nil _ _, by rw [HQ.out.1]; exact HV2.out, HO2.out⟩
  have k1b : (KD == 1) = false := beq_eq_false_iff_ne.2 k1
  by_cases k2 : KD = 2
  · subst k2
    obtain ⟨e1, e2, e3⟩ := HE2.out rfl
    have HQ := hid (And.intro e1 (And.intro e2 e3))
    clear e1 e2 e3
    go_wp2_with fail
    refine (HGv.out _ HV1.out).mono ?_; rintro e w2 ⟨rfl, hv, hon⟩
    have HV2 := hid hv
    have HO2 := hid (HOn.out _ _ hon HW1.out)
    clear hv hon
    go_wp2_with fail
    go_ret2
    exact ⟨_, by rw [HQ.out.2.2]; rfl, by rw [HQ.out.2.1]; exact ownp_nil _ _, by rw [HQ.out.1]; exact HV2.out, HO2.out⟩
  have k2b : (KD == 2) = false := beq_eq_false_iff_ne.2 k2
  obtain ⟨e1, e2, e3⟩ := HE3.out ⟨k0, k1, k2⟩
  have HQ := hid (And.intro e1 (And.intro e2 e3))
  clear e1 e2 e3 k0 k1 k2
  go_wp2_with fail
  go_ret2
  exact ⟨_, by rw [HQ.out.2.2]; rfl, by rw [HQ.out.2.1]; exact ownp_nil _ _, by rw [HQ.out.1]; exact HV1.out, .of_below HW1.out⟩
/-- the program's New, of what may not be -/
theorem pnew_no (self : Int) (e : Nat) (S : Nat → Bool) (c : Int) (w : World) (h : newE self e = c) (hc : c ≠ 0) : Calls Try.prog 13 #[.int .i64 self, .agg (cellsOf S), .int .u64 (e : Int)] w fun r w' => r = .returned (.tuple #[.pointer none, .int .i64 c]) ∧ Below w.heap.size w w' := by
  have HW0 := hid (below_alloc w (.cells (cellsOf S) 24))
  have HN := hid (isnode_any self)
  generalize cellsOf S = CX at *
  cases hn : nodeB self with
  | false =>
    rw [hn] at HN
    obtain rfl : c = 150 := by
      rw [← h]; unfold newE
      exact if_neg (of_decide_eq_false hn)
    clear h hc
    go_enter Try.func13, Try.ntmps13
    go_wp2_with fail
    refine (HN.out _).mono ?_; rintro r w2 ⟨rfl, rfl⟩
    go_wp2_with fail
    go_ret2
    exact ⟨rfl, HW0.out⟩
  | true =>
    rw [hn] at HN
    have hm := of_decide_eq_true hn
    have h2 : (4611686018427387904 : Int) < (e : Int) := by
      have := h
      unfold newE at this
      rw [if_pos hm] at this
      by_cases c' : e ≤ 4611686018427387904
      · rw [if_pos c'] at this; exact absurd this.symm hc
      · omega
    obtain rfl : c = 1 := by
      rw [← h]; unfold newE
      rw [if_pos hm, if_neg (by omega)]
    clear h hc hm
    go_enter Try.func13, Try.ntmps13
    go_wp2_with fail
    refine (HN.out _).mono ?_; rintro r w2 ⟨rfl, rfl⟩
    go_wp2_with fail
    go_ret2
    exact ⟨rfl, HW0.out⟩

end Go.Proofs.Ytdicjnkbmlamgab
