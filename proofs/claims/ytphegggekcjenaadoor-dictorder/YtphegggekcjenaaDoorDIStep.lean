/- The program's dict: Step. -/
import Derived.Test.YtphegggekcjenaaDoorDIAdd
import Derived.WalkSpells
namespace Go.Proofs.YtphegggekcjenaaDoor.DI
open Go.RowKit

theorem eq_none : ∀ w, (binOp .eql 66 (.slice none 0 0) (.slice none 0 0)).run Tryd.prog w = .ok (.bool true) w := fun w => Lib.run_eql_slice_nil (P := Tryd.prog) w 66 73 none 0 0 0 0 Tryd.underlying66
theorem eq_some (a : Addr) (n c : Nat) : ∀ w, (binOp .eql 66 (.slice (some a) n c) (.slice none 0 0)).run Tryd.prog w = .ok (.bool false) w := fun w => Lib.run_eql_slice_nil (P := Tryd.prog) w 66 73 (some a) n c 0 0 Tryd.underlying66
/-- what a call that turns a dict leaves alone -/
structure Turn (g g' : Tg) (w w' : World) : Prop where
  keep : Keep (fun k => g k = none) w w'
  new : ∀ k, g' k ≠ none → g k ≠ none ∨ w.heap.size ≤ k
theorem Turn.refl (g : Tg) (w : World) : Turn g g w w := ⟨Keep.refl _ _, fun _ h => .inl h⟩
theorem Turn.trans {g g1 g2 : Tg} {w w1 w2 : World} (h : Turn g g1 w w1) (k : Turn g1 g2 w1 w2) : Turn g g2 w w2 where
  keep := ⟨k.keep.os.trans h.keep.os, k.keep.tape.trans h.keep.tape, k.keep.output.trans h.keep.output, Nat.le_trans h.keep.size k.keep.size, fun i hi hp => by
    refine (k.keep.block i (Nat.lt_of_lt_of_le hi h.keep.size) ?_).trans (h.keep.block i hi hp)
    cases h1 : g1 i with
    | none => rfl
    | some t =>
      rcases h.new i (by rw [h1]; simp) with h2 | h2
      · exact absurd hp h2
      · omega⟩
  new := fun i hi => by
    rcases k.new i hi with h1 | h1
    · exact h.new i h1
    · exact .inr (Nat.le_trans h.keep.size h1)
theorem Upd.turn {e : Bool} {g g' : Tg} {w w' : World} (h : Upd e g g' w w') : Turn g g' w w' :=
  ⟨h.keep.mono (fun k hk => by rw [hk]; exact ⟨by simp, fun _ => by simp⟩), fun k hk => (h.new k hk).imp id (·.1)⟩
theorem Turn.below {g : Tg} {w w' : World} (h : Below w.heap.size w w') : Turn g g w w' := ⟨Keep.of_below h, fun _ h => .inl h⟩
theorem Turn.env {g g' : Tg} {w w' : World} {B : Nat} (h : Turn g g' w w') (hE : Env B w) (hlt : ∀ k, g k ≠ none → k < w.heap.size ∧ B ≤ k) : Env B w' :=
  hE.turn (fun k hk => h.keep.block k (by have := hE.size; omega) (by
    cases h1 : g k with
    | none => rfl
    | some t => have := (hlt k (by rw [h1]; simp)).2; omega)) h.keep.size
/-- the head alone turns -/
theorem Turn.head {g : Tg} {w w' : World} {b : Nat} (hb : g b ≠ none) (ho : ∀ k, k ≠ b → w'.heap[k]? = w.heap[k]?) (hs : w'.heap.size = w.heap.size) (h1 : w'.os = w.os) (h2 : w'.tape = w.tape) (h3 : w'.output = w.output) : Turn g g w w' :=
  ⟨⟨h1, h2, h3, by omega, fun k _ hk => ho k (fun e => hb (by rw [← e]; exact hk))⟩, fun _ h => .inl h⟩
theorem Lies.updN {B : Nat} {w w' : World} {g g' : Tg} {b nb : Nat} {ev : Value} {T : TM Int} {many : Nat} (h : Lies B w g b nb ev T many) (u : Upd false g g' w w') (hB : B ≤ w.heap.size) {nw : Tb Int} (hT : TabIs w' g' false nb nw) (hl : nw.length = T.nw.length) : Lies B w' g' b nb ev ⟨nw, T.el, T.tk⟩ many where
  head := by
    rw [u.keep.block b (h.lt b (by rw [h.tag]; simp)).1 (by rw [h.tag]; exact ⟨by simp, fun _ => by simp⟩), h.head]
    simp [headC, hl]
  tag := (u.old b (by rw [h.tag]; simp)).trans h.tag
  nw := hT
  el := h.el.turn (fun k e => ⟨(u.old k (by rw [e]; simp)).trans e, u.keep.block k (h.lt k (by rw [e]; simp)).1 (by rw [e]; exact ⟨by simp, fun _ => by simp⟩)⟩)
    (fun k i e => ⟨(u.old k (by rw [e]; simp)).trans e, u.keep.block k (h.lt k (by rw [e]; simp)).1 (by rw [e]; exact ⟨by simp, fun _ => by simp⟩)⟩)
  lt := u.lt h.lt hB
theorem Lies.updE {B : Nat} {w w' : World} {g g' : Tg} {b nb eb : Nat} {T : TM Int} {many : Nat} (h : Lies B w g b nb (.slice (some ⟨eb, 0, none⟩) T.el.length T.el.length) T many) (u : Upd true g g' w w') (hB : B ≤ w.heap.size) {el : Tb Int} (hT : TabIs w' g' true eb el) (hl : el.length = T.el.length) (hne : T.el ≠ []) : Lies B w' g' b nb (.slice (some ⟨eb, 0, none⟩) el.length el.length) ⟨T.nw, el, T.tk⟩ many where
  head := by
    rw [u.keep.block b (h.lt b (by rw [h.tag]; simp)).1 (by rw [h.tag]; exact ⟨by simp, fun _ => by simp⟩), h.head]
    simp [headC, hl]
  tag := (u.old b (by rw [h.tag]; simp)).trans h.tag
  nw := h.nw.turn (fun k e => ⟨(u.old k (by rw [e]; simp)).trans e, u.keep.block k (h.lt k (by rw [e]; simp)).1 (by rw [e]; exact ⟨by simp, fun _ => by simp⟩)⟩)
    (fun k i e => ⟨(u.old k (by rw [e]; simp)).trans e, u.keep.block k (h.lt k (by rw [e]; simp)).1 (by rw [e]; exact ⟨by simp, fun _ => by simp⟩)⟩)
  el := .inr ⟨eb, rfl, fun e => hne (List.eq_nil_of_length_eq_zero (by rw [← hl, show el = [] from e]; rfl)), hT⟩
  lt := u.lt h.lt hB
theorem Lies.rehead {B : Nat} {w w' : World} {g : Tg} {b nb : Nat} {ev ev' : Value} {T T' : TM Int} {many many' : Nat} (h : Lies B w g b nb ev T many) (hb : w'.heap[b]? = some (.cells (headC nb ev' T' many') 68 (0, 0))) (ho : ∀ k, k ≠ b → w'.heap[k]? = w.heap[k]?) (hs : w'.heap.size = w.heap.size) (hn : T'.nw = T.nw) (hel : ElIs w g ev' T'.el) : Lies B w' g b nb ev' T' many' where
  head := hb
  tag := h.tag
  nw := by
    rw [hn]
    exact h.nw.turn (fun k e => ⟨e, ho k (fun e2 => by rw [e2, h.tag] at e; cases e)⟩) (fun k i e => ⟨e, ho k (fun e2 => by rw [e2, h.tag] at e; cases e)⟩)
  el := hel.turn (fun k e => ⟨e, ho k (fun e2 => by rw [e2, h.tag] at e; cases e)⟩) (fun k i e => ⟨e, ho k (fun e2 => by rw [e2, h.tag] at e; cases e)⟩)
  lt := fun k hk => by rw [hs]; exact h.lt k hk
set_option maxHeartbeats 2000000 in
set_option maxRecDepth 100000 in
/-- Step: there is one table -/
theorem step_none {B : Nat} {w : World} {g : Tg} {b nb : Nat} {T : TM Int} {many : Nat} (h : Lies B w g b nb (.slice none 0 0) T many) :
    Calls Tryd.prog 15 #[.pointer (some ⟨b, 0, none⟩)] w fun e w' => e = .returned (.bool false) ∧ w' = w := by
  obtain ⟨_, c1, _, _⟩ := h.cells
  have k1 := eq_none
  clear h
  go_enter Tryd.func15, Tryd.ntmps15
  go_wp2
  go_ret
  exact ⟨rfl, rfl⟩
set_option maxHeartbeats 2000000 in
set_option maxRecDepth 100000 in
/-- Step: there are two -/
theorem step_some {B : Nat} {w : World} {g : Tg} {b nb eb : Nat} {T : TM Int} {many : Nat} (h : Lies B w g b nb (.slice (some ⟨eb, 0, none⟩) T.el.length T.el.length) T many) (hT : TabIs w g true eb T.el) (hE : Env B w) (hF : Fit T) (hc : T.el.flatten.length + T.nw.flatten.length ≤ 1000000) (htk : T.tk < T.el.length) (hnm : ∀ x ∈ T.el[T.tk], x.1.length ≤ 140737488351232) :
    Calls Tryd.prog 15 #[.pointer (some ⟨b, 0, none⟩)] w fun e w' => e = .returned (.bool true) ∧ Hid (∃ g' ev', Lies B w' g' b nb ev' (tookT sumN T) many ∧ Turn g g' w w') := by
  obtain ⟨c0, c1, c2, c3⟩ := h.cells
  obtain ⟨u, hu, huf, hru, hut⟩ := hT.room T.tk htk
  have hrl : T.el[T.tk].length ≤ 1000000 := hF.rE T.tk htk
  have htN : T.el.length ≤ 1000000 := hF.eN
  have HH := hid h
  have HU := hid hu
  have HRU := hid hru
  have HUT := hid hut
  have HE := hid hE
  have HF := hid hF
  have HT := hid hT
  have HC := hid hc
  have HNM := hid hnm
  obtain ⟨p, c, rfl⟩ := hru.shape
  have htz : (T.tk : Int) < (T.el.length : Int) := by omega
  have htz2 : (T.tk : Int) + 1 ≤ 1000000 := by omega
  have k1 := eq_some ⟨eb, 0, none⟩ T.el.length T.el.length
  clear h hT hE hF hc hnm hru hut huf
  go_enter Tryd.func15, Tryd.ntmps15
  go_wp2_with fail
  go_region
  go_wp2_with fail
  go_loopw [4, 21] (fun _ v21 W => ∃ i : Nat, v21 = .int .i64 i ∧ i ≤ T.el[T.tk].length ∧ Hid (∃ g', Lies B W g' b nb (.slice (some ⟨eb, 0, none⟩) T.el.length T.el.length) ⟨adds sumN T.nw (T.el[T.tk].take i), T.el, T.tk⟩ many ∧ Upd false g g' w W)) (fun _ v21 _ => T.el[T.tk].length - (intOf v21).toNat)
  case atStart => exact ⟨0, rfl, Nat.zero_le _, g, HH.out.below (Below.refl _ w).drew, Upd.below (Below.refl _ w).drew⟩
  case round =>
    obtain ⟨i, rfl, hi, HI⟩ := hrel
    obtain ⟨g1, hL1, hU1⟩ := HI.out
    clear HI
    by_cases hlt : i < T.el[T.tk].length
    · have hlz : (i : Int) < (T.el[T.tk].length : Int) := by omega
      obtain ⟨gr, rfl, hcl⟩ := HRU.out.cells i hlt
      have hgr : wr.heap[gr]? = w.heap[gr]? := hU1.keep.block gr (HRU.out.lt rfl) (by rw [HUT.out gr rfl]; exact ⟨by simp, fun _ => by simp⟩)
      have x0 := cell_turn (hcl i hlt).1 hgr
      have x1 := cell_turn (hcl i hlt).2 hgr
      obtain ⟨y0, -⟩ := hL1.cells
      have HE1 := hid (hU1.env HE.out HH.out.lt)
      have HAl := hid (adds_len sumN (T.el[T.tk].take i) T.nw)
      have HAd := hid (adds_snoc sumN T.nw T.el[T.tk] i hlt)
      have HNi := hid (HNM.out T.el[T.tk][i] (List.getElem_mem _))
      have HRm : Hid (∀ j (hj : j < (adds sumN T.nw (T.el[T.tk].take i)).length), (adds sumN T.nw (T.el[T.tk].take i))[j].length ≤ 1000000) := fun j hj => by
        have := adds_room sumN T.nw (T.el[T.tk].take i) HF.out.n0 j hj
        have := room_len T.el T.tk htk
        have := HC.out
        have : (T.el[T.tk].take i).length ≤ T.el[T.tk].length := by rw [List.length_take]; omega
        omega
      have hbl : b < wr.heap.size := (hL1.lt b (by rw [hL1.tag]; simp)).1
      generalize T.el[T.tk][i] = x at *
      obtain ⟨n, v⟩ := x
      simp only at x0 x1 HNi HAd
      generalize hA : adds sumN T.nw (T.el[T.tk].take i) = A at *
      have HBA := hid (below_alloc wr (.cells #[txt n, (.int .i64 v)] 75)).drew
      have HL2 := hid (hL1.below HBA.out)
      have HU2 := hid (hU1.trans (Upd.below HBA.out))
      have HA2 := hid (add_any HL2.out.nw HL2.out.lt (HE1.out.below HBA.out HE1.out.size) (by rw [HAl.out]; exact HF.out.n0) (by rw [HAl.out]; exact HF.out.nN) HRm.out n v HNi.out)
      clear hcl hgr hL1 hU1 hA
      go_wp2_with fail
      go_region_law (go_simp; go_at_call 35; refine HA2.out.mono ?_; rintro e w3 ⟨rfl, hh⟩)
      all_goals go_wp2_with fail
      all_goals obtain ⟨g3, hT3, hU3⟩ := hh.out
      all_goals exact ⟨⟨i + 1, by go_num, by omega, g3, by rw [HAd.out]; exact HL2.out.updN hU3 (HE1.out.below HBA.out HE1.out.size).size hT3 (add1_len _ _ _), HU2.out.trans hU3⟩, by simp [intOf]; omega⟩
    · obtain rfl : i = T.el[T.tk].length := by omega
      rw [List.take_length] at hL1
      have HAl := hid (adds_len sumN T.el[T.tk] T.nw)
      have HTk : Hid (tookT sumN T = if T.tk + 1 = T.el.length then ⟨adds sumN T.nw T.el[T.tk], [], 0⟩ else ⟨adds sumN T.nw T.el[T.tk], T.el.set T.tk [], T.tk + 1⟩) := by
        unfold Hid tookT
        rw [getD_at _ _ _ htk]
      generalize adds sumN T.nw T.el[T.tk] = A at *
      have hT1 : TabIs wr g1 true eb T.el := by
        rcases hL1.el with ⟨e, _⟩ | ⟨eb', e, _, h⟩
        · cases e
        · injection e with e
          injection e with e
          injection e with e
          rw [e]; exact h
      have hne : ¬ eb = b := fun e => by
        obtain ⟨_, _, _, h2, _⟩ := hT1
        rw [e, hL1.tag] at h2
        cases h2
      obtain ⟨u1, z0, zf, _, _⟩ := hT1.room T.tk htk
      have HS := hid (hT1.stored (w' := wr.drew) (fun k hk => (hL1.lt k hk).1) T.tk htk u1 (.slice none 0 0) [] z0 (Room.nil _) rfl rfl rfl (Nat.le_refl _) (fun _ _ _ => rfl) (fun k h => by cases h))
      obtain ⟨y0, y1, y2, y3⟩ := hL1.cells
      have f1 := hL1.frozen 1
      have f2 := hL1.frozen 2
      have HL1 := hid hL1
      have HU1 := hid hU1
      have HE1 := hid (hU1.env HE.out HH.out.lt)
      clear hL1 hU1 hT1
      have hk2 : (T.tk : Int) + 1 = ((T.tk + 1 : Nat) : Int) := by omega
      have HK2 := hid hk2
      clear hk2
      have HLE : Hid (∃ g2, Lies B (wr.drew.setCell ⟨eb, T.tk, none⟩ (.slice none 0 0)) g2 b nb (.slice (some ⟨eb, 0, none⟩) T.el.length T.el.length) ⟨A, T.el.set T.tk [], T.tk⟩ many ∧ Turn g g2 w (wr.drew.setCell ⟨eb, T.tk, none⟩ (.slice none 0 0))) := by
        obtain ⟨g2, hT2, hU2⟩ := HS.out
        have := Lies.updE (T := ⟨A, T.el, T.tk⟩) HL1.out hU2 HE1.out.size hT2 (by simp) (fun e => by simp only at e; rw [e] at htk; simp at htk)
        rw [List.length_set] at this
        exact ⟨g2, this, HU1.out.turn.trans hU2.turn⟩
      clear HS
      by_cases hlast : T.tk + 1 = T.el.length
      · have hlz : ((T.tk : Int) + 1) = (T.el.length : Int) := by omega
        rw [if_pos hlast] at HTk
        go_wp2_with fail
        go_region
        all_goals go_wp2_with fail
        all_goals go_region
        all_goals go_wp2_with fail
        all_goals go_ret
        all_goals obtain ⟨g2, hL2, hT2⟩ := HLE.out
        all_goals refine ⟨rfl, g2, .slice none 0 0, ?_, hT2.trans (Turn.head (b := b) (by rw [hL2.tag]; simp) ?_ ?_ rfl rfl rfl)⟩
        · rw [HTk.out]
          exact hL2.rehead (heap_setCell_same _ b 2 _ _ _ (heap_setCell_same _ b 1 _ _ _ (heap_setCell_same _ b 2 _ _ _ hL2.head))) (fun k hk => by
            show (((_ : World).setCell _ _).setCell _ _).heap[k]? = _
            rw [heap_setCell_other _ _ _ _ hk, heap_setCell_other _ _ _ _ hk]
            show ((_ : World).setCell _ _).heap[k]? = _
            rw [heap_setCell_other _ _ _ _ hk]; rfl) (by simp) rfl (.inl ⟨rfl, rfl⟩)
        · intro k hk
          show (((_ : World).setCell _ _).setCell _ _).heap[k]? = _
          rw [heap_setCell_other _ _ _ _ hk, heap_setCell_other _ _ _ _ hk]
          show ((_ : World).setCell _ _).heap[k]? = _
          rw [heap_setCell_other _ _ _ _ hk]; rfl
        · simp
      · have hlz : (((T.tk : Int) + 1) == (T.el.length : Int)) = false := by rw [beq_eq_false_iff_ne]; omega
        rw [if_neg hlast] at HTk
        clear hlast hlt hi
        go_wp2_with fail
        go_region
        all_goals go_wp2_with fail
        all_goals go_region
        all_goals go_wp2_with fail
        all_goals go_ret
        all_goals obtain ⟨g2, hL2, hT2⟩ := HLE.out
        all_goals refine ⟨rfl, g2, .slice (some ⟨eb, 0, none⟩) T.el.length T.el.length, ?_, hT2.trans (Turn.head (b := b) (by rw [hL2.tag]; simp) ?_ ?_ rfl rfl rfl)⟩
        · rw [HTk.out]
          refine hL2.rehead (ev' := .slice (some ⟨eb, 0, none⟩) T.el.length T.el.length) (T' := ⟨A, T.el.set T.tk [], T.tk + 1⟩) ?_ (fun k hk => by
            show ((_ : World).setCell _ _).heap[k]? = _
            rw [heap_setCell_other _ _ _ _ hk]; rfl) (by simp) rfl hL2.el
          have := heap_setCell_same _ b 2 _ _ (.int .i64 ((T.tk : Int) + 1)) hL2.head
          rw [HK2.out] at this
          exact this
        · intro k hk
          show ((_ : World).setCell _ _).heap[k]? = _
          rw [heap_setCell_other _ _ _ _ hk]; rfl
        · simp
/-- Step -/
theorem step_any {B : Nat} {w : World} {g : Tg} {b nb : Nat} {ev : Value} {T : TM Int} {many : Nat} (h : Lies B w g b nb ev T many) (hE : Env B w) (hF : Fit T) (hc : T.el.flatten.length + T.nw.flatten.length ≤ 1000000) (htk : (T.el = [] ∧ T.tk = 0) ∨ T.tk < T.el.length) (hnm : ∀ x ∈ T.el.flatten, x.1.length ≤ 140737488351232) :
    Calls Tryd.prog 15 #[.pointer (some ⟨b, 0, none⟩)] w fun e w' => e = .returned (.bool (decide (T.tk < T.el.length))) ∧ Hid (∃ g' ev', Lies B w' g' b nb ev' (if T.tk < T.el.length then tookT sumN T else T) many ∧ Turn g g' w w') := by
  rcases h.el with ⟨rfl, he⟩ | ⟨eb, rfl, hne, hT⟩
  · rw [if_neg (by rw [he]; simp), decide_eq_false (by rw [he]; simp)]
    exact (step_none h).mono fun e w' ⟨he, hw⟩ => ⟨he, by subst hw; exact ⟨g, _, h, Turn.refl _ _⟩⟩
  · have hk : T.tk < T.el.length := by
      rcases htk with ⟨e, _⟩ | h
      · exact absurd e hne
      · exact h
    rw [if_pos hk, decide_eq_true hk]
    exact step_some h hT hE hF hc hk (fun x hx => hnm x (List.mem_flatten.2 ⟨_, List.getElem_mem hk, hx⟩))

end Go.Proofs.YtphegggekcjenaaDoor.DI
