/- VwTake5, BuRef4, VwDo. -/
import Derived.Test.YtbfllifgmlkndaaGreatDoorM29
import Derived.Test.YtbfllifgmlkndaaGreatDoorM28
import Derived.Test.YtbfllifgmlkndaaGreatDoorM21
import Derived.Test.YtbfllifgmlkndaaGreatDoorM23
namespace Go.Proofs.YtbfllifgmlkndaaGreatDoor
open Go.RowKit
open Slot

theorem claim_cl {v : Vw} {n m : Nat} {p : Pk} (ho : ∀ t, v.own t ≤ 64) (hn : n < 64) (hm : m < 64) : clK v.cl n (wonK v.cl v.ep n p) m = (claimV v n p).cl m := by
  funext t
  symm
  have h64 := ho t
  show ((if p.cl t then (if v.own t = 64 ∨ v.own t = n ∨ v.ep (v.own t) < p.epoch then n else v.own t) else (if v.own t = n then 64 else v.own t)) == m) = (if m = n then wonK v.cl v.ep n p t else (v.own t == m) && !wonK v.cl v.ep n p t)
  rw [won_is v n p t h64]
  cases hc : p.cl t
  · simp only [Bool.false_eq_true, if_false, Bool.false_and, Bool.not_false, Bool.and_true]
    by_cases e : v.own t = n
    · rw [if_pos e]
      by_cases e2 : m = n
      · rw [if_pos e2, beq_eq_false_iff_ne]; omega
      · rw [if_neg e2, beq_eq_false_iff_ne.2 (show (64 : Nat) ≠ m by omega), beq_eq_false_iff_ne.2 (show v.own t ≠ m by omega)]
    · rw [if_neg e]
      by_cases e2 : m = n
      · rw [if_pos e2, beq_eq_false_iff_ne]; omega
      · rw [if_neg e2]
  · simp only [if_true, Bool.true_and]
    by_cases c : v.own t = 64 ∨ v.own t = n ∨ v.ep (v.own t) < p.epoch
    · rw [if_pos c, decide_eq_true c]
      by_cases e2 : m = n
      · rw [if_pos e2, e2, beq_self_eq_true]
      · rw [if_neg e2, beq_eq_false_iff_ne.2 (show n ≠ m by omega)]; simp
    · rw [if_neg c, decide_eq_false c]
      by_cases e2 : m = n
      · rw [if_pos e2, beq_eq_false_iff_ne]; omega
      · rw [if_neg e2]; simp
theorem take2_ep {v : Vw} {p : Pk} : cE v.ep (ofN p) p.epoch = (take2 v p).ep := by
  unfold cE take2
  by_cases h : v.ep (ofN p) ≤ p.epoch
  · rw [if_pos h, if_pos (show (take1 v p).ep (ofN p) ≤ p.epoch from h)]; rfl
  · rw [if_neg h, if_neg (show ¬ (take1 v p).ep (ofN p) ≤ p.epoch from h)]; rfl
theorem take2_cl {v : Vw} {p : Pk} {m : Nat} (ho : ∀ t, v.own t ≤ 64) (hn : ofN p < 64) (hm : m < 64) : cK v.ep v.cl (ofN p) p.epoch p m = (take2 v p).cl m := by
  unfold cK take2
  by_cases h : v.ep (ofN p) ≤ p.epoch
  · rw [if_pos h, if_pos (show (take1 v p).ep (ofN p) ≤ p.epoch from h)]; exact claim_cl (v := take1 v p) ho hn hm
  · rw [if_neg h, if_neg (show ¬ (take1 v p).ep (ofN p) ≤ p.epoch from h)]; rfl
theorem take3_ep {v : Vw} {p : Pk} (hk : p.kind ≠ 3) : rE (take2 v p).ep v.self (ofN p) p.epoch (max v.cur p.cur) = (take3 v p).ep := by
  have hs := take2_self v p
  have hc := take2_cur v p
  unfold rE take3
  by_cases h : p.epoch = (take2 v p).ep v.self ∧ v.self < ofN p
  · rw [if_pos h, if_pos ⟨hk, by rw [hs]; exact h.1, by rw [hs]; exact h.2⟩]
    funext m
    show _ = if m = (take2 v p).self then (take2 v p).cur + 1 else (take2 v p).ep m
    rw [hs, hc]
  · rw [if_neg h, if_neg (fun c => h ⟨by rw [← hs]; exact c.2.1, by rw [← hs]; exact c.2.2⟩)]
theorem take3_cur {v : Vw} {p : Pk} (hk : p.kind ≠ 3) : rM (take2 v p).ep v.self (ofN p) p.epoch (max v.cur p.cur) = (take3 v p).cur := by
  have hs := take2_self v p
  have hc := take2_cur v p
  unfold rM take3
  by_cases h : p.epoch = (take2 v p).ep v.self ∧ v.self < ofN p
  · rw [if_pos h, if_pos ⟨hk, by rw [hs]; exact h.1, by rw [hs]; exact h.2⟩]
    show _ = (take2 v p).cur + 1
    rw [hc]
  · rw [if_neg h, if_neg (fun c => h ⟨by rw [← hs]; exact c.2.1, by rw [← hs]; exact c.2.2⟩), hc]
theorem take3_cl (v : Vw) (p : Pk) : (take3 v p).cl = (take2 v p).cl := by
  unfold take3
  split <;> rfl
theorem take3_own64 {v : Vw} {p : Pk} (ho : ∀ t, v.own t ≤ 64) (hn : ofN p < 64) (t : Nat) : (take3 v p).own t ≤ 64 := by
  have e : (take3 v p).own = (take2 v p).own := by unfold take3; split <;> rfl
  rw [e]
  unfold take2
  split
  · show (if p.cl t then (if v.own t = 64 ∨ v.own t = ofN p ∨ v.ep (v.own t) < p.epoch then ofN p else v.own t) else (if v.own t = ofN p then 64 else v.own t)) ≤ 64
    have := ho t
    split <;> split <;> omega
  · exact ho t
theorem beat_lt {v : Vw} {p : Pk} (ho : ∀ t, v.own t ≤ 64) : ∀ (f k : Nat) {o : Nat}, beatV v p f k = some o → o < 64
  | 0, _, _, h => by cases h
  | f + 1, k, o, h => by
    unfold beatV at h
    by_cases c : worse v p k = true
    · rw [if_pos c] at h
      unfold worse at c
      simp only [Bool.and_eq_true, decide_eq_true_eq] at c
      have h1 := c.1.1.2
      have h2 := ho k
      have h3 := Option.some.inj h
      omega
    · rw [if_neg c] at h
      exact beat_lt ho f (k + 1) h
/-- what Take leaves, and answers -/
def RTakeP (me : Nat) (v : Vw) (p : Pk) (w : World) (e : Ending) (w' : World) : Prop :=
  ∃ g cap a, e = .returned (.tuple #[.agg (rvc me g cap (takeV v p).cur), a]) ∧ Nd w' g (takeV v p).ep (takeV v p).cl ∧ g < w'.heap.size ∧ OwnP w.heap.size w' a (answV v p) ∧ Below w.heap.size w w'
theorem take_oth (self g cap cur : Nat) (v : Vw) (p : Pk) (w : World) (hs : v.self = self) (hs64 : self < 64) (hcu : v.cur = cur) (hcb : cur < 9223372036854775807) (hown : ∀ t, v.own t ≤ 64) (hse : seen v p = true) (hk : p.kind ≠ 3) (hN : Nd w g v.ep v.cl) : Calls Tryz.prog 55 #[.agg (rvc self g cap cur), .agg (pkCells p)] w (RTakeP self v p w) := by
  obtain ⟨hr, hC, hF, hO⟩ := seen_right hse
  obtain ⟨hn, hfr, hf64, -, hec, -, -⟩ := right_of hr
  have hof2 : ofN p = p.frm.toNat := by unfold ofN; rw [if_neg hk]
  have hbig : big = 4611686018427387904 := rfl
  rw [hbig] at hC
  subst hs hcu
  have e2 := take2_ep (v := v) (p := p)
  have e3 := take3_ep (v := v) hk
  have e4 := take3_cur (v := v) hk
  have e5 : ∀ m, m < 64 → cK v.ep v.cl (ofN p) p.epoch p m = (take3 v p).cl m := fun m hm => by rw [take3_cl]; exact take2_cl hown hn hm
  have hT : takeV v p = take3 v p := by unfold takeV; rw [if_pos hse]
  have hs3 : (take3 v p).self = v.self := take3_self v p
  have ho3 := take3_own64 (v := v) (p := p) hown hn
  have hA : answV v p = outV (take3 v p) p := by unfold answV; rw [if_pos ⟨hse, hk⟩, hT]
  refine (take_oth_core v.self g cap v.cur (ofN p) p.cur p.epoch (max v.cur p.cur) p p.kind (p.kind == 1 || p.kind == 4) (beatI (take3 v p) p) v.ep v.cl (if (p.kind == 1 || p.kind == 4) = true then [tellV (take3 v p) 2] else []) (answV v p) w rfl rfl hk rfl (by rw [hof2, hfr]) rfl rfl hr hC ?_ hs64 hn hcb (by omega) ?_ ?_ ?_ ?_ hN).mono ?_
  · intro h
    exact hF (by rw [← hfr, ← hof2, h])
  · rw [e2, e3, e4, e5 _ hs64]
    unfold tellV
    rw [hs3]
  · split <;> simp
  · intro g' cap' W h
    rw [e2, e3] at h
    rw [e2, e4]
    exact rbeaten_any v.self g' cap' _ (take3 v p) p (ofN p) W ho3 (by rw [hof2, hfr]) (h.congr (fun _ _ => rfl) (fun m i hm _ => by rw [e5 m hm]))
  · rw [e2, e3, e4, hA]
    unfold outV
    have hz : (if p.kind = 1 ∨ p.kind = 4 then [tellV (take3 v p) 2] else []) = (if (p.kind == 1 || p.kind == 4) = true then [tellV (take3 v p) 2] else []) := by
      by_cases c : p.kind = 1 ∨ p.kind = 4
      · rw [if_pos c, if_pos (by simpa using c)]
      · rw [if_neg c, if_neg (by simpa using c)]
    rw [hz]
    cases hb : beatV (take3 v p) p top 0 with
    | none =>
      rw [beat_none hb]
      exact .inl ⟨by decide, by simp⟩
    | some o =>
      rw [beat_some hb]
      have ho := beat_lt ho3 _ _ hb
      refine .inr ⟨o, rfl, ho, ?_⟩
      rw [e5 o ho]
      unfold updV
      rw [hs3]
  · rintro e w' ⟨g', cap', a, rfl, hNd, hge, hop, hb⟩
    rw [e2, e3] at hNd
    refine ⟨g', cap', a, by rw [hT, e2, e4], ?_, hNd.lt, hop, hb⟩
    rw [hT]
    exact hNd.congr (fun _ _ => rfl) (fun m i hm _ => by rw [e5 m hm])
/-- the document's Take -/
theorem rtake_any (self g cap cur : Nat) (v : Vw) (p : Pk) (w : World) (hs : v.self = self) (hs64 : self < 64) (hcu : v.cur = cur) (hcb : cur < 9223372036854775807) (hown : ∀ t, v.own t ≤ 64) (hN : Nd w g v.ep v.cl) : Calls Tryz.prog 55 #[.agg (rvc self g cap cur), .agg (pkCells p)] w (RTakeP self v p w) := by
  cases hse : seen v p with
  | false =>
    have hT : takeV v p = v := by unfold takeV; rw [hse]; rfl
    have hA : answV v p = [] := by unfold answV; rw [hse, if_neg (fun c => Bool.false_ne_true c.1)]
    refine (take_no self g cap cur v p w hs hse).mono ?_
    rintro e w' ⟨rfl, hb⟩
    have hN' := hN.below hb hN.lt
    exact ⟨g, cap, .slice none 0 0, by rw [hT, hcu], by rw [hT]; exact hN', hN'.lt, by rw [hA]; exact ownp_nil _ _, hb⟩
  | true =>
    by_cases hk : p.kind = 3
    · have hA : answV v p = [] := by unfold answV; rw [if_neg (fun c => c.2 hk)]
      refine (take_upd self g cap cur v p w hs hcu hown hse hk hN).mono ?_
      rintro e w' ⟨g', cap', rfl, hNd, -, hb⟩
      exact ⟨g', cap', .slice none 0 0, rfl, hNd, hNd.lt, by rw [hA]; exact ownp_nil _ _, hb⟩
    · exact take_oth self g cap cur v p w hs hs64 hcu hcb hown hse hk hN

end Go.Proofs.YtbfllifgmlkndaaGreatDoor

namespace Go.Proofs.YtbfllifgmlkndaaGreatDoor
open Go.RowKit
open Slot

/-- is it taken in? -/
noncomputable def bTake (v : Vw) (s : Bs) : Bool := decide (decE s = 0) && decide ((decPk s).frm ≠ v.self)
noncomputable def bView (v : Vw) (s : Bs) : Vw := if bTake v s = true then takeV v (decPk s) else v
noncomputable def bOut (v : Vw) (s : Bs) : List (Int × Bs) := if bTake v s = true then outs (decPk s).frm (answV v (decPk s)) else []
/-- what a call of the document leaves: the view's nodes, what goes out -/
def RBu (self : Nat) (v : Vw) (O : List (Int × Bs)) (x : Value) (w : World) (e : Ending) (w' : World) : Prop :=
  ∃ g cap v' B, e = .returned (.tuple #[.agg (rbc self g cap v.cur v'), x]) ∧ Nd w' g v.ep v.cl ∧ g < w'.heap.size ∧ OutR B w' v' O ∧ Below w.heap.size w w'
theorem ret_rb2 {fn : Func} {p q : Tmp} (h : fn.results = #[.cell p 41, .tmp q]) {tmps : Array Value} {w : World} {b : Nat} {C : Array Value} {v : Value} (hs : C.size = 4) (hp : tmps.getD p undef = .pointer (some ⟨b, 0, none⟩)) (hq : tmps.getD q undef = v) (hB : w.heap[b]? = some (.cells C 41 (0, 0))) :
    (results fn tmps).run Tryz.prog w = .ok (.tuple #[.agg C, v]) w := by
  have hp' : tmps[p]?.getD undef = .pointer (some ⟨b, 0, none⟩) := by simpa using hp
  have hq' : tmps[q]?.getD undef = v := by simpa using hq
  simp [results, h, hp', hq', asAddr, run_loadVar_row w b 41 41 C (0, 0) _ hB Tryz.underlying41 rfl (infoRB hs)]
theorem rbc_range {w : World} {b self g cap cur : Nat} {v : Value} (h : w.heap[b]? = some (.cells (rbc self g cap cur v) 41 (0, 0))) : w.rangeAt b 0 (rvc self g cap cur).toList := fun j u hu => by
  rw [Nat.zero_add, cell_of_row _ _ _ _ _ _ h]
  rw [Array.getElem?_toList] at hu
  have hj : j < 3 := (Array.getElem?_eq_some_iff.1 hu).1
  match j, hj with
  | 0, _ => exact hu
  | 1, _ => exact hu
  | 2, _ => exact hu
theorem outr_apart {B b : Nat} {W : World} {v : Value} {L : List (Int × Bs)} {C C' : Array Value} {fr : Nat × Nat} (h : OutR B W v L) (hb : W.heap[b]? = some (.cells C' 41 fr)) : OutR B (W.setRow b C) v L := by
  obtain ⟨h1, h2⟩ := h
  refine ⟨h1, ?_⟩
  rcases h2 with h2 | ⟨gg, cp, cur', hv, hg, hh, r⟩
  · exact .inl h2
  · refine .inr ⟨gg, cp, cur', hv, hg, (setRow_other _ _ _ _ (fun e => ?_)).trans hh, r⟩
    rw [e, hb] at hh
    injection hh with h1
    injection h1 with _ h3
    cases h3
theorem nd_apart {W : World} {g b : Nat} {E : Nat → Nat} {K : Nat → Nat → Bool} {C' : Array Value} {fr : Nat × Nat} (h : Nd W g E K) (hb : W.heap[b]? = some (.cells C' 41 fr)) : g ≠ b := fun e => by
  obtain ⟨C, hC, -⟩ := h
  rw [e, hb] at hC
  injection hC with h1
  injection h1 with _ h3
  cases h3
/-- a view stored into a bus -/
theorem put3 {W : World} {b s g c u s' g' c' u' : Nat} {v1 : Value} (h : W.heap[b]? = some (.cells (rbc s g c u v1) 41 (0, 0))) :
    (W.setCells b 0 (rvc s' g' c' u').toList).heap[b]? = some (.cells (rbc s' g' c' u' v1) 41 (0, 0)) := by
  have h1 : (W.setCell ⟨b, 0, none⟩ (.int .i64 (s' : Int))).heap[b]? = some (.cells #[.int .i64 (s' : Int), .slice (some ⟨g, 0, none⟩) 64 c, .int .u64 (u : Int), v1] 41 (0, 0)) := heap_setCell_same W b 0 _ _ _ h
  have h2 : ((W.setCell ⟨b, 0, none⟩ (.int .i64 (s' : Int))).setCell ⟨b, 1, none⟩ (.slice (some ⟨g', 0, none⟩) 64 c')).heap[b]? = some (.cells #[.int .i64 (s' : Int), .slice (some ⟨g', 0, none⟩) 64 c', .int .u64 (u : Int), v1] 41 (0, 0)) := heap_setCell_same _ b 1 _ _ _ h1
  exact heap_setCell_same _ b 2 _ _ _ h2
theorem put3_other {W : World} {b s' g' c' u' k : Nat} (hk : k ≠ b) : (W.setCells b 0 (rvc s' g' c' u').toList).heap[k]? = W.heap[k]? :=
  (Below.heap_setCell _ ⟨b, 2, none⟩ _ _ hk).trans ((Below.heap_setCell _ ⟨b, 1, none⟩ _ _ hk).trans (Below.heap_setCell _ ⟨b, 0, none⟩ _ _ hk))
theorem put3_below {W w : World} {n b s' g' c' u' : Nat} (h : Below n w W) (hb : n ≤ b) : Below n w (W.setCells b 0 (rvc s' g' c' u').toList) :=
  ((h.setCell (p := ⟨b, 0, none⟩) hb _).setCell (p := ⟨b, 1, none⟩) hb _).setCell (p := ⟨b, 2, none⟩) hb _
theorem put3_there {W : World} {b s g c u : Nat} {v1 : Value} (h : W.heap[b]? = some (.cells (rbc s g c u v1) 41 (0, 0))) : W.there b 0 3 := fun j hj => by
  rw [Nat.zero_add]
  refine ⟨?_, by simp [World.frozen?, h]⟩
  rw [cell_of_row _ _ _ _ _ _ h]
  match j, hj with
  | 0, _ => rfl
  | 1, _ => rfl
  | 2, _ => rfl
theorem outr_turn {B : Nat} {W W' : World} {v : Value} {L : List (Int × Bs)} (h : OutR B W v L) (hb : ∀ (k : Nat) (C : Array Value) (fr : Nat × Nat), W.heap[k]? = some (.cells C 91 fr) → W'.heap[k]? = W.heap[k]?) : OutR B W' v L := by
  obtain ⟨h1, h2⟩ := h
  refine ⟨h1, ?_⟩
  rcases h2 with h2 | ⟨gg, cp, cur', hv, hg, hh, r⟩
  · exact .inl h2
  · exact .inr ⟨gg, cp, cur', hv, hg, (hb gg _ _ hh).trans hh, r⟩
theorem pks_set {W : World} {a : Option Addr} {L : List Pk} {b o : Nat} {vs : List Value} (h : Pks W a L) (hs : W.heap.size ≤ (W.setCells b o vs).heap.size) (hb : ∀ x, a = some x → x.block ≠ b) : Pks (W.setCells b o vs) a L := fun hne => by
  obtain ⟨c, p, rfl, h1, h2⟩ := h hne
  exact ⟨c, p, rfl, Nat.lt_of_lt_of_le h1 hs, fun j hj => World.rangeAt_setCells_apart (h2 j hj) b o vs (.inl (hb _ rfl))⟩
theorem answ_64 {v : Vw} {p : Pk} (h : v.Ok 1000000) : ∀ q ∈ answV v p, q.epoch < 18446744073709551616 ∧ q.cur < 18446744073709551616 := fun q hq => by
  have hT := take_ok (p := p) h
  have hc := hT.cur
  have hb : big = 4611686018427387904 := rfl
  have key : ∀ m, (takeV v p).ep m < 18446744073709551616 := fun m => by have := hT.ep m; omega
  unfold answV at hq
  split at hq
  · unfold outV at hq
    rcases List.mem_append.1 hq with hq | hq
    · split at hq
      · rw [List.mem_singleton.1 hq]; exact ⟨key _, by show (takeV v p).cur < _; omega⟩
      · cases hq
    · split at hq
      · rw [List.mem_singleton.1 hq]; exact ⟨key _, by show (takeV v p).cur < _; omega⟩
      · cases hq
  · cases hq
theorem answ_len2 (v : Vw) (p : Pk) : (answV v p).length ≤ 2 := by
  unfold answV
  split
  · unfold outV
    split <;> split <;> simp
  · exact Nat.zero_le _
set_option maxHeartbeats 8000000 in
set_option maxRecDepth 100000 in
theorem ftake_any (self g cap cur B1 : Nat) (v : Vw) (v1 : Value) (O : List (Int × Bs)) (s : Bs) (w : World) (hs : v.self = self) (hs64 : self < 64) (hcu : v.cur = cur) (hOk : v.Ok 1000000) (hN : Nd w g v.ep v.cl) (hO : OutR B1 w v1 O) (hO6 : O.length ≤ 800000) (hsl : s.length ≤ 1048576) :
    Calls Tryz.prog 30 #[.agg (rbc self g cap cur v1), .string ⟨s.toArray⟩] w (RBu self (bView v s) (O ++ bOut v s) (.bool (bTake v s)) w) := by
  subst hs hcu
  obtain ⟨a1, c1, rfl⟩ := out_shape hO
  obtain ⟨NO, hNO⟩ : ∃ n, O.length = n := ⟨_, rfl⟩
  rw [hNO] at hO ⊢
  have hbig : big = 4611686018427387904 := rfl
  have b1 := below_alloc w (.cells (rbc v.self g cap v.cur (.slice a1 NO c1)) 41)
  have b2 := below_alloc (w.alloc (.cells (rbc v.self g cap v.cur (.slice a1 NO c1)) 41)) (.cells #[.int .i64 0, .slice none 0 0, .int .u64 0, .slice none 0 0] 41)
  have e1 : (w.alloc (.cells (rbc v.self g cap v.cur (.slice a1 NO c1)) 41)).heap.size = w.heap.size + 1 := by simp
  have HW0 := hid (b1.trans (b2.mono (by omega)))
  have HB0 : Hid (((w.alloc (.cells (rbc v.self g cap v.cur (.slice a1 NO c1)) 41)).alloc (.cells #[.int .i64 0, .slice none 0 0, .int .u64 0, .slice none 0 0] 41)).heap[w.heap.size]? = some (.cells (rbc v.self g cap v.cur (.slice a1 NO c1)) 41 (0, 0))) := heap_alloc2_old w _ _
  have HR0 : Hid (((w.alloc (.cells (rbc v.self g cap v.cur (.slice a1 NO c1)) 41)).alloc (.cells #[.int .i64 0, .slice none 0 0, .int .u64 0, .slice none 0 0] 41)).heap[w.heap.size + 1]? = some (.cells #[.int .i64 0, .slice none 0 0, .int .u64 0, .slice none 0 0] 41 (0, 0))) := heap_alloc2_new w _ _
  have HO0 : Hid (OutR B1 _ (.slice a1 NO c1) O) := hid (OutR.below hO HW0.out)
  have HN0 := hid (hN.below HW0.out hN.lt)
  have HDe := hid (fun W => rdecode_any s W hsl)
  have HTk := hid (fun W h => rtake_any v.self g cap v.cur v (decPk s) W rfl hs64 rfl (by have := hOk.cur; omega) hOk.own h)
  have HA64 := hid (answ_64 (p := decPk s) hOk)
  have HAl := hid (answ_len2 v (decPk s))
  have HNOh := hid hNO
  have HO6 := hid hO6
  have HBt : Hid (∀ c, bTake v s = c → bTake v s = c) := fun _ h => h
  obtain ⟨DP, hDP⟩ : ∃ p, decPk s = p := ⟨_, rfl⟩
  obtain ⟨DE, hDE⟩ : ∃ p, decE s = p := ⟨_, rfl⟩
  have HT : Hid (bTake v s = (decide (DE = 0) && decide (DP.frm ≠ v.self)) ∧ bView v s = (if bTake v s = true then takeV v DP else v) ∧ bOut v s = if bTake v s = true then outs DP.frm (answV v DP) else []) := by
    rw [← hDP, ← hDE]; exact ⟨rfl, rfl, rfl⟩
  rw [hDP] at HDe HTk HA64 HAl
  rw [hDE] at HDe
  obtain ⟨PC, hPC⟩ : ∃ C, pkCells DP = C := ⟨_, rfl⟩
  have iP : (Tryz.prog.info? 53).map (·.size) = some PC.size := by rw [← hPC]; exact infoPk DP
  have oP : PC.all (·.oneCell') = true := by rw [← hPC]; exact onePk DP
  have HPb : Hid (∀ W b, W.heap[b]? = some (.cells PC 53 (0, 0)) → PBox W b DP) := fun W b h => by rw [← hPC] at h; exact h
  have zP : Tryz.zeroCells53.size = PC.size := by rw [← hPC, pkCells_size]; exact zsize
  rw [hPC] at HDe HTk
  obtain ⟨FR, hFR⟩ : ∃ f, DP.frm = f := ⟨_, rfl⟩
  obtain ⟨me, hme⟩ : ∃ m, v.self = m := ⟨_, rfl⟩
  obtain ⟨RB, hRB⟩ : ∃ C, rbc v.self g cap v.cur (.slice a1 NO c1) = C := ⟨_, rfl⟩
  have HRB := hid hRB
  have HFM := hid (And.intro hFR hme)
  have iR : (Tryz.prog.info? 41).map (·.size) = some RB.size := by rw [← hRB]; exact infoRB rfl
  have oR : RB.all (·.oneCell') = true := by rw [← hRB]; exact rbc_one _ _ _ _ _ rfl
  have hs4 : RB.size = 4 := by rw [← hRB]; rfl
  have HS4 := hid hs4
  have z4 : (#[.int .i64 0, .slice none 0 0, .int .u64 0, .slice none 0 0] : Array Value).size = RB.size := hs4.symm
  have HRg : Hid (∀ W : World, W.heap[w.heap.size]? = some (.cells RB 41 (0, 0)) → W.cell? ⟨w.heap.size, 0, none⟩ = some (.int .i64 (me : Int)) ∧ W.rangeAt w.heap.size 0 (rvc me g cap v.cur).toList) := fun W h => by
    rw [← hRB, hme] at h
    exact ⟨cell_of_row _ _ 0 _ _ _ h, rbc_range h⟩
  rw [hRB] at HW0 HB0 HR0 HO0 HN0 ⊢
  have HOk := hid hOk
  clear b1 b2 e1 hRB hN hO hO6 hNO hDP hDE hPC hFR hme hs4 hOk hs64 hsl
  go_enter Tryz.func30, Tryz.ntmps30
  go_upto_region 1 with fail
  generalize (w.alloc (.cells RB 41)).alloc (.cells #[.int .i64 0, .slice none 0 0, .int .u64 0, .slice none 0 0] 41) = w2 at *
  go_wp2_with fail
  refine (HDe.out _).mono ?_; rintro r w3 ⟨rfl, hb3⟩
  have HB3 := hid ((hb3.block _ (Array.getElem?_eq_some_iff.1 HB0.out).1).trans HB0.out)
  have HR3 := hid ((hb3.block _ (Array.getElem?_eq_some_iff.1 HR0.out).1).trans HR0.out)
  have HO3 := hid (OutR.below HO0.out hb3)
  have HN3 := hid (HN0.out.below hb3 HN0.out.lt)
  have HW3 := hid (HW0.out.trans (hb3.mono HW0.out.size))
  have HZ4 := hid (heap_alloc_new w3 (.cells Tryz.zeroCells53 53))
  have hb4 := below_setRow (g := w3.heap.size) (below_alloc w3 (.cells Tryz.zeroCells53 53)) (Nat.le_refl _) PC
  have HP4 := hid (HPb.out _ _ (setRow_heap _ _ _ PC _ _ HZ4.out))
  have HPr4 := hid (setRow_heap _ _ _ PC _ _ HZ4.out)
  have HB4 := hid ((hb4.block _ (Array.getElem?_eq_some_iff.1 HB3.out).1).trans HB3.out)
  have HR4 := hid ((hb4.block _ (Array.getElem?_eq_some_iff.1 HR3.out).1).trans HR3.out)
  have HO4 := hid (OutR.below HO3.out hb4)
  have HN4 := hid (HN3.out.below hb4 HN3.out.lt)
  have HW4 := hid (HW3.out.trans (hb4.mono HW3.out.size))
  have hlt : w.heap.size < w3.heap.size := (Array.getElem?_eq_some_iff.1 HB3.out).1
  have HLt := hid hlt
  clear hb3 hb4 HB3 HR3 HO3 HN3 HW3 HB0 HR0 HO0 HN0 HW0 hlt
  go_upto_region 2 with (refine wpList_store_row rfl 53 _ _ rfl w3.heap.size PC rfl rfl 53 _ HZ4.out iP zP oP ?_)
  clear HZ4
  generalize (w3.alloc (.cells Tryz.zeroCells53 53)).setRow w3.heap.size PC = w4 at *
  obtain ⟨pb, hpb⟩ : ∃ x, w3.heap.size = x := ⟨_, rfl⟩
  rw [hpb] at HP4 HPr4 ⊢
  clear hpb
  obtain ⟨p0, p1, p2, p3, p4⟩ := HP4.out.cells
  rw [HFM.out.1] at p1
  obtain ⟨s0, sr⟩ := HRg.out _ HB4.out
  have HSr := hid sr
  have HNo : Hid (bTake v s = false → RBu v.self (bView v s) (O ++ bOut v s) (.bool (bTake v s)) w (.returned (.tuple #[.agg RB, .bool false])) (w4.setRow (w.heap.size + 1) RB)) := fun h => by
    rw [HT.out.2.1, HT.out.2.2, h, if_neg (by decide), if_neg (by decide), List.append_nil]
    have hne : g ≠ w.heap.size + 1 := fun e => by
      obtain ⟨C, hC, -⟩ := HN4.out
      rw [e, HR4.out] at hC
      injection hC with h1
      injection h1 with _ h3
      cases h3
    have hN5 := HN4.out.turn (setRow_other w4 (w.heap.size + 1) g RB hne)
    refine ⟨g, cap, .slice a1 NO c1, B1, by rw [HRB.out], hN5, hN5.lt, ?_, below_setRow HW4.out (by omega) _⟩
    obtain ⟨h1, h2⟩ := HO4.out
    refine ⟨h1, ?_⟩
    rcases h2 with h2 | ⟨gg, cp, cur', hv, hg, hh, r⟩
    · exact .inl h2
    · refine .inr ⟨gg, cp, cur', hv, hg, (setRow_other _ _ _ _ (fun e => ?_)).trans hh, r⟩
      rw [e, HR4.out] at hh
      injection hh with h1
      injection h1 with _ h3
      cases h3
  by_cases hD : DE = 0
  · subst hD
    by_cases hF : FR = (me : Int)
    · subst hF
      have HE := hid (HNo.out (by rw [HT.out.1, HFM.out.1, HFM.out.2]; simp))
      clear sr
      go_wp2_with (first | (refine wpList_load_row rfl 41 _ rfl w.heap.size rfl 41 _ (0, 0) _ HB4.out Tryz.underlying41 rfl iR ?_) | (refine wpList_store_row rfl 41 _ _ rfl (w.heap.size + 1) RB rfl rfl 41 _ HR4.out iR z4 oR ?_))
      refine bodyPost_ret (v := .tuple #[.agg RB, .bool false]) ?_ rfl ?_
      · exact ret_rb2 rfl HS4.out rfl rfl (setRow_heap _ _ _ _ _ _ HR4.out)
      exact HE.out
    · have HSeen : Hid (bTake v s = true) := by show _ = _; rw [HT.out.1, HFM.out.1, HFM.out.2, decide_eq_true hF]; rfl
      have hFb : (FR == (me : Int)) = false := beq_eq_false_iff_ne.2 hF
      clear HNo hF sr oR iR
      obtain ⟨RC, hRC⟩ : ∃ C, rvc me g cap v.cur = C := ⟨_, rfl⟩
      have hta : RC.toList.toArray = RC := Array.toArray_toList
      have i3 : (Tryz.prog.info? 34).map (·.size) = some RC.toList.length := by rw [← hRC]; exact infoRV rfl
      rw [hRC] at HSr
      rw [HFM.out.2, hRC] at HTk
      have HTk4 := hid (HTk.out w4 HN4.out)
      clear hRC
      go_wp2_with (first | (refine wpList_load_mid rfl 34 _ rfl w.heap.size 0 rfl _ _ HSr.out Tryz.underlying34 rfl i3 ?_; rw [hta]) | (refine wpList_load_row rfl 53 _ rfl pb rfl 53 _ (0, 0) _ HPr4.out Tryz.underlying53 rfl iP ?_))
      refine HTk4.out.mono ?_; rintro r w5 ⟨g5, cap5, a5, rfl, hNd, hg5, hOw, hb5⟩
      obtain ⟨a6, c6, rfl, hlt6, hPk6⟩ := hOw.shape
      obtain ⟨cu5, hcu5⟩ : ∃ u, (takeV v DP).cur = u := ⟨_, rfl⟩
      obtain ⟨LA, hLA⟩ : ∃ l, answV v DP = l := ⟨_, rfl⟩
      rw [hLA] at hOw hPk6 HAl HA64 ⊢
      obtain ⟨nl, hnl⟩ : ∃ n, LA.length = n := ⟨_, rfl⟩
      rw [hnl]
      rw [hcu5]
      have hlw4 := (Array.getElem?_eq_some_iff.1 HB4.out).1
      have hlr4 := (Array.getElem?_eq_some_iff.1 HR4.out).1
      have hlp4 := (Array.getElem?_eq_some_iff.1 HPr4.out).1
      have HB5 := hid ((hb5.block _ hlw4).trans HB4.out)
      have HR5 := hid ((hb5.block _ hlr4).trans HR4.out)
      have HPr5 := hid ((hb5.block _ hlp4).trans HPr4.out)
      have HO5 := hid (OutR.below HO4.out hb5)
      have HW5 := hid (HW4.out.trans (hb5.mono HW4.out.size))
      have HZ6 := hid (heap_alloc_new w5 (.cells #[.int .i64 0, .slice none 0 0, .int .u64 0] 34))
      obtain ⟨R5, hR5⟩ : ∃ C, rvc me g5 cap5 cu5 = C := ⟨_, rfl⟩
      have i5 : (Tryz.prog.info? 34).map (·.size) = some R5.size := by rw [← hR5]; exact infoRV rfl
      have o5 : R5.all (·.oneCell') = true := by rw [← hR5]; exact rvc_one _ _ _ _
      have z5 : (#[.int .i64 0, .slice none 0 0, .int .u64 0] : Array Value).size = R5.size := by rw [← hR5]; rfl
      have hb6 := below_setRow (g := w5.heap.size) (below_alloc w5 (.cells #[.int .i64 0, .slice none 0 0, .int .u64 0] 34)) (Nat.le_refl _) R5
      have HV6 := hid (setRow_heap (w5.alloc (.cells #[.int .i64 0, .slice none 0 0, .int .u64 0] 34)) w5.heap.size _ R5 _ _ HZ6.out)
      have hs5 : w5.heap.size ≥ w4.heap.size := hb5.size
      have HB6 := hid ((hb6.block _ (by omega)).trans HB5.out)
      have HR6 := hid ((hb6.block _ (by omega)).trans HR5.out)
      have HPr6 := hid ((hb6.block _ (by omega)).trans HPr5.out)
      have HO6' := hid (OutR.below HO5.out hb6)
      have HN6 := hid (hNd.below hb6 hg5)
      have HW6 := hid (HW5.out.trans (hb6.mono HW5.out.size))
      have HK6 := hid (hPk6.below hb6 (fun a e => (hlt6 a e).1))
      have HX6 : Hid (∀ a, a6 = some a → a.block < w5.heap.size ∧ w4.heap.size ≤ a.block) := hlt6
      have HC5 := hid hcu5
      have HLA := hid (And.intro hLA hnl)
      have HR5e := hid hR5
      have HG5 := hid hg5
      have HS45 := hid (show w.heap.size + 1 < w4.heap.size ∧ w4.heap.size ≤ w5.heap.size from ⟨hlr4, hs5⟩)
      rw [hR5]
      clear hNd hg5 hOw hb5 hb6 hlt6 hPk6 hcu5 hLA hnl hlw4 hlr4 hlp4 HB5 HR5 HPr5 HO5 HW5 hR5 hs5 HTk4 HSr HB4 HR4 HPr4 HO4 HN4 HP4 p0 p1 p2 p3 p4 s0 i3 hta
      go_upto_region 5 with (refine wpList_store_row rfl 34 _ _ rfl w5.heap.size R5 rfl rfl 34 _ HZ6.out i5 z5 o5 ?_)
      clear HZ6
      generalize (w5.alloc (.cells #[.int .i64 0, .slice none 0 0, .int .u64 0] 34)).setRow w5.heap.size R5 = w6 at *
      have t3 : w6.there w.heap.size 0 R5.size := by
        have h := HB6.out
        rw [← HRB.out] at h
        rw [← HR5e.out]
        exact put3_there h
      have HB7 : Hid ((w6.setCells w.heap.size 0 R5.toList).heap[w.heap.size]? = some (.cells (rbc me g5 cap5 cu5 (.slice a1 NO c1)) 41 (0, 0))) := by
        have h := HB6.out
        rw [← HRB.out] at h
        rw [← HR5e.out]
        exact put3 h
      have hoth : ∀ k, k ≠ w.heap.size → (w6.setCells w.heap.size 0 R5.toList).heap[k]? = w6.heap[k]? := fun k hk => by rw [← HR5e.out]; exact put3_other hk
      have HR7 := hid ((hoth (w.heap.size + 1) (by omega)).trans HR6.out)
      have HPr7 := hid ((hoth pb (fun e => by have := HPr6.out; rw [e, HB6.out] at this; injection this with h1; injection h1 with _ h3; cases h3)).trans HPr6.out)
      have HO7 : Hid (OutR B1 (w6.setCells w.heap.size 0 R5.toList) (.slice a1 NO c1) O) := outr_turn HO6'.out (fun k C fr hk => hoth k (fun e => by rw [e, HB6.out] at hk; injection hk with h1; injection h1 with _ h3; cases h3))
      have HN7 := hid (HN6.out.turn (hoth g5 (nd_apart HN6.out HB6.out)))
      have HW7 : Hid (Below w.heap.size w (w6.setCells w.heap.size 0 R5.toList)) := by rw [← HR5e.out]; exact put3_below HW6.out (Nat.le_refl _)
      have HK7 : Hid (Pks (w6.setCells w.heap.size 0 R5.toList) a6 LA) := by
        have hb : Below w.heap.size w6 (w6.setCells w.heap.size 0 R5.toList) := by rw [← HR5e.out]; exact put3_below (Below.refl _ _) (Nat.le_refl _)
        exact pks_set HK6.out hb.size (fun a ha => by have := (HX6.out a ha).2; have := HS45.out; omega)
      have HX7 : Hid (∀ a, a6 = some a → a.block < (w6.setCells w.heap.size 0 R5.toList).heap.size) := fun a ha => by
        have hb : Below w.heap.size w6 (w6.setCells w.heap.size 0 R5.toList) := by rw [← HR5e.out]; exact put3_below (Below.refl _ _) (Nat.le_refl _)
        have := (HX6.out a ha).1
        have h6 := (Array.getElem?_eq_some_iff.1 HV6.out).1
        have := hb.size
        omega
      have h5lt := (Array.getElem?_eq_some_iff.1 HV6.out).1
      clear hoth
      go_upto_region 6 with (first | (refine wpList_load_row rfl 34 _ rfl w5.heap.size rfl 34 _ (0, 0) _ HV6.out Tryz.underlying34 rfl i5 ?_) | (refine wpList_store_mid rfl 34 _ _ rfl w.heap.size 0 R5 rfl rfl t3 i5 o5 ?_))
      clear t3 HV6 HB6 HR6 HPr6 HO6' HN6 HW6 HK6 HX6
      generalize w6.setCells w.heap.size 0 R5.toList = w7 at *
      obtain ⟨-, p1, -, -, -⟩ := (HPb.out _ _ HPr7.out).cells
      rw [HFM.out.1] at p1
      have HLd := hid (laid_any me g5 cap5 cu5 nl c6 B1 (.slice a1 NO c1) O FR a6 LA w7 HLA.out.2 HO7.out HK7.out HX7.out HA64.out (by have := HO6.out; omega) (by have := HAl.out; have := HLA.out.2; omega))
      obtain ⟨RB7, hRB7⟩ : ∃ C, rbc me g5 cap5 cu5 (.slice a1 NO c1) = C := ⟨_, rfl⟩
      have i7 : (Tryz.prog.info? 41).map (·.size) = some RB7.size := by rw [← hRB7]; exact infoRB rfl
      rw [hRB7] at HB7 HLd
      have hl7 := (Array.getElem?_eq_some_iff.1 HR7.out).1
      have HL7 := hid hl7
      have hg7 := HN7.out.lt
      have HG7 := hid hg7
      have hne7 : g5 ≠ w.heap.size + 1 := nd_apart HN7.out HR7.out
      have HNe7 := hid hne7
      clear hRB7 HO7 HK7 HX7 hl7 hg7 hne7 HPr7
      go_wp2_with (refine wpList_load_row rfl 41 _ rfl w.heap.size rfl 41 _ (0, 0) _ HB7.out Tryz.underlying41 rfl i7 ?_)
      refine HLd.out.mono ?_; rintro r w8 ⟨v8, rfl, hO8, hb8⟩
      obtain ⟨a8, c8, rfl⟩ := out_shape hO8
      have hlen : (O ++ outs FR LA).length = NO + nl := by
        have := HNOh.out
        have := HLA.out.2
        simp [outs]
        omega
      rw [hlen] at hO8 ⊢
      obtain ⟨RB8, hRB8⟩ : ∃ C, rbc me g5 cap5 cu5 (.slice a8 (NO + nl) c8) = C := ⟨_, rfl⟩
      have i8 : (Tryz.prog.info? 41).map (·.size) = some RB8.size := by rw [← hRB8]; exact infoRB rfl
      have o8 : RB8.all (·.oneCell') = true := by rw [← hRB8]; exact rbc_one _ _ _ _ _ rfl
      have hs8 : RB8.size = 4 := by rw [← hRB8]; rfl
      have z8 : RB.size = RB8.size := by rw [hs8]; exact HS4.out
      have z9 : (#[.int .i64 0, .slice none 0 0, .int .u64 0, .slice none 0 0] : Array Value).size = RB8.size := hs8.symm
      have HS8 := hid hs8
      have HR8 := hid ((hb8.block _ HL7.out).trans HR7.out)
      have HN8 := hid (HN7.out.below hb8 HG7.out)
      have HW8 := hid (HW7.out.trans (hb8.mono HW7.out.size))
      have HO8 := hid hO8
      have HE8 := hid hRB8
      rw [hRB8]
      clear hlen hO8 hb8 hRB8 hs8 HLd p1 HB7 HR7 HN7 HW7
      go_wp2_with (refine wpList_store_row rfl 41 _ _ rfl (w.heap.size + 1) RB8 rfl rfl 41 _ HR8.out i8 z9 o8 ?_)
      refine bodyPost_ret (v := .tuple #[.agg RB8, .bool true]) ?_ rfl ?_
      · exact ret_rb2 rfl HS8.out rfl rfl (setRow_heap _ _ _ _ _ _ HR8.out)
      have hN9 := HN8.out.turn (setRow_other w8 (w.heap.size + 1) g5 RB8 HNe7.out)
      unfold RBu
      rw [HT.out.2.1, HT.out.2.2, HSeen.out, if_pos rfl, if_pos rfl]
      refine ⟨g5, cap5, .slice a8 (NO + nl) c8, w7.heap.size, ?_, hN9, hN9.lt, ?_, below_setRow HW8.out (by omega) _⟩
      · rw [HC5.out, HFM.out.2, HE8.out]
      · rw [HFM.out.1, HLA.out.1]
        exact outr_apart HO8.out HR8.out
  · have hDb : (DE != 0) = true := by rw [bne_iff_ne]; exact hD
    have HE := hid (HNo.out (by rw [HT.out.1, decide_eq_false hD]; rfl))
    clear sr hD
    go_wp2_with (first | (refine wpList_load_row rfl 41 _ rfl w.heap.size rfl 41 _ (0, 0) _ HB4.out Tryz.underlying41 rfl iR ?_) | (refine wpList_store_row rfl 41 _ _ rfl (w.heap.size + 1) RB rfl rfl 41 _ HR4.out iR z4 oR ?_))
    refine bodyPost_ret (v := .tuple #[.agg RB, .bool false]) ?_ rfl ?_
    · exact ret_rb2 rfl HS4.out rfl rfl (setRow_heap _ _ _ _ _ _ HR4.out)
    exact HE.out

end Go.Proofs.YtbfllifgmlkndaaGreatDoor

namespace Go.Proofs.YtbfllifgmlkndaaGreatDoor
open Go.RowKit
open Slot

/-- what a call of the document leaves and answers: the view, and an error -/
def REndP (me : Nat) (v : Vw) (c : Int) (w : World) (e : Ending) (w' : World) : Prop :=
  ∃ g cap, e = .returned (.tuple #[.agg (rvc me g cap v.cur), .int .i64 c]) ∧ Nd w' g v.ep v.cl ∧ g < w'.heap.size ∧ Below w.heap.size w w'
theorem rwin_any (self g cap cur : Nat) (v : Vw) (s : Int) (l : Nat) (w : World) (hs : v.self = self) (hs64 : self < 64) (hcu : v.cur = cur) (hcb : cur < 9223372036854775807) (hN : Nd w g v.ep v.cl) :
    Calls Tryz.prog 31 #[.agg (rvc self g cap cur), .int .i64 s, .int .u64 (l : Int)] w (REndP self (if winE s l = 0 then winV v s.toNat l else v) (winE s l) w) := by
  subst hs hcu
  by_cases h : winE s l = 0
  · rw [h, if_pos rfl]
    have h2 : slotB s = true ∧ l ≤ big := by
      unfold winE at h
      by_cases c : slotB s = true ∧ l ≤ big
      · exact c
      · rw [if_neg c] at h; cases h
    have hb := of_decide_eq_true h2.1
    obtain ⟨k, rfl⟩ := Int.eq_ofNat_of_zero_le hb.1
    refine (win_yes v.self g cap v.cur k l v.ep v.cl w (by omega) hs64 h2.2 (by omega) hN).mono ?_
    rintro e w' ⟨g', cap', rfl, hNd, -, hbl⟩
    refine ⟨g', cap', rfl, ?_, hNd.lt, hbl⟩
    rw [Int.toNat_natCast]
    exact own_nd (v := { v with ep := fun m => if m = v.self then max v.cur l + 1 else v.ep m }) hNd
  · rw [if_neg h]
    refine (win_no v.self g cap v.cur l s w h).mono ?_
    rintro e w' ⟨rfl, hb⟩
    have hN' := hN.below hb hN.lt
    exact ⟨g, cap, rfl, hN', hN'.lt, hb⟩
theorem rgive_any (self g cap cur : Nat) (v : Vw) (s n : Int) (w : World) (hs : v.self = self) (hcu : v.cur = cur) (hN : Nd w g v.ep v.cl) :
    Calls Tryz.prog 33 #[.agg (rvc self g cap cur), .int .i64 s, .int .i64 n] w (REndP self (if giveE s n = 0 then ownV v s.toNat n.toNat else v) (giveE s n) w) := by
  subst hs hcu
  by_cases h : giveE s n = 0
  · rw [h, if_pos rfl]
    have h2 : slotB s = true ∧ (0 ≤ n ∧ n < 64) := by
      unfold giveE at h
      by_cases c : slotB s = true
      · rw [if_pos c] at h
        by_cases d : 0 ≤ n ∧ n < 64
        · exact ⟨c, d⟩
        · rw [if_neg d] at h; cases h
      · rw [if_neg c] at h; cases h
    have hb := of_decide_eq_true h2.1
    obtain ⟨k, rfl⟩ := Int.eq_ofNat_of_zero_le hb.1
    obtain ⟨m, rfl⟩ := Int.eq_ofNat_of_zero_le h2.2.1
    refine (give_yes v.self g cap v.cur k m v.ep v.cl w (by omega) (by omega) hN).mono ?_
    rintro e w' ⟨g', cap', rfl, hNd, -, hbl⟩
    exact ⟨g', cap', rfl, own_nd hNd, hNd.lt, hbl⟩
  · rw [if_neg h]
    refine (give_no v.self g cap v.cur s n _ w rfl h).mono ?_
    rintro e w' ⟨rfl, hb⟩
    have hN' := hN.below hb hN.lt
    exact ⟨g, cap, rfl, hN', hN'.lt, hb⟩
end Go.Proofs.YtbfllifgmlkndaaGreatDoor
