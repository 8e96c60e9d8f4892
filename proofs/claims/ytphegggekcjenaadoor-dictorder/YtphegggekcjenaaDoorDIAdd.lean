/- The program's dict: add. -/
import Derived.Test.YtphegggekcjenaaDoorDIFind
import Derived.Laws.OwnMore
namespace Go.Proofs.YtphegggekcjenaaDoor.DI
open Go.RowKit

theorem infoP : (Tryd.prog.info? 75).map (fun i => (i.zero, i.size, i.bytes)) = some (some (.agg #[.string ⟨#[]⟩, .int .i64 0]), 2, 24) := by kernel_rfl
/-- an append leaves a room where it was, or lays a new one -/
theorem push_where (w : World) (u : Value) (n : Nat) (xs : List Value) (hown : w.ownsRow 0 75 2 u n xs) (a : Addr) (news : List Value) (hl : news.length = 2) (hnews : ∀ j u, news[j]? = some u → w.cell? (a.add j) = some u) (h1 : ∀ u ∈ news, u.oneCell' = true) (hn : n ≤ 1000000000) (u' : Value) (w' : World)
    (hrun : (Builtin.append_ #[73, 73] 73 #[u, .slice (some a) 1 1]).run Tryd.prog w = .ok u' w') : u'.ownBlock = u.ownBlock ∨ u'.ownBlock = some w.heap.size := by
  obtain ⟨i0, hi, hz0, hz1, hz2⟩ := info_parts infoP
  have hl' : news.length = 1 * i0.size := by rw [hz1, hl]
  rcases hown.2 with ⟨rfl, rfl⟩ | ⟨g, cap, cur, rfl, hbg, hg, hnc, hcm, hcs, htake⟩
  · have hr := run_append_nil (P := Tryd.prog) w 73 73 75 i0 _ Tryd.underlying73 hi hz0 a 1 1 news hl' hnews (by omega) (by omega) (by rw [hz2]; omega)
    rw [hr] at hrun
    injection hrun with hrun _
    rw [← hrun]
    exact .inr rfl
  · by_cases hroom : n + 1 ≤ cap
    · have hr := run_append_room (P := Tryd.prog) w 73 73 75 i0 Tryd.underlying73 hi g n cap cur hg a 1 1 news hl' hnews h1 hroom (by rw [hl, hcs, hz1]; omega)
      rw [hr] at hrun
      injection hrun with hrun _
      rw [← hrun]
      exact .inl rfl
    · have holds : ∀ j u, xs[j]? = some u → w.cell? ((⟨g, 0, none⟩ : Addr).add j) = some u := hown.cells (g := g) rfl
      have hr := run_append_grow (P := Tryd.prog) w 73 73 75 i0 _ Tryd.underlying73 hi hz0 ⟨g, 0, none⟩ n cap xs (by rw [hz1]; exact hown.1) holds a 1 1 news hl' hnews (by omega) (by omega) (growslice_fits (by omega) (by rw [hz2]; omega))
      rw [hr] at hrun
      injection hrun with hrun _
      rw [← hrun]
      exact .inr rfl
/-- a name and its value are put behind a room's -/
theorem Room.push {w : World} {u : Value} {l : Its Int} (h : Room w u l) (hl : l.length ≤ 1000000) (n : Nm) (v : Int) (q : Nat) (hq : w.heap[q]? = some (.cells #[txt n, (.int .i64 v)] 75 (0, 0))) :
    ∃ u' w', (Builtin.append_ #[73, 73] 73 #[u, .slice (some ⟨q, 0, none⟩) 1 1]).run Tryd.prog w = .ok u' w' ∧ Room w' u' (l ++ [(n, v)]) ∧ w.grownBy w' u.ownBlock ∧ (u'.ownBlock = u.ownBlock ∨ u'.ownBlock = some w.heap.size) := by
  obtain ⟨i0, hi, hz0, hz1, hz2⟩ := info_parts infoP
  have hnews : ∀ j x, ([txt n, (.int .i64 v)] : List Value)[j]? = some x → w.cell? ((⟨q, 0, none⟩ : Addr).add j) = some x := fun j x hj => by
    rw [Go.WideShapes.add_plain, cell_of_row _ _ _ _ _ _ hq]
    simpa using hj
  have hone : ∀ x ∈ ([txt n, (.int .i64 v)] : List Value), x.oneCell' = true := by
    intro x hx
    simp only [List.mem_cons, List.not_mem_nil, or_false] at hx
    rcases hx with rfl | rfl <;> rfl
  obtain ⟨u', w', hrun, ho, hgr, _⟩ := run_append_own (P := Tryd.prog) w 0 73 73 75 i0 (.agg #[.string ⟨#[]⟩, .int .i64 0]) 2 24 Tryd.underlying73 hi hz0 hz1 hz2 rfl (by decide) _ _ _ h ⟨q, 0, none⟩ 1 1 [txt n, (.int .i64 v)] rfl hnews hone (by unfold maxLen; omega) (by omega) (by omega)
  refine ⟨u', w', hrun, ?_, hgr, push_where w u l.length (flat l) h ⟨q, 0, none⟩ _ rfl hnews hone (by omega) u' w' hrun⟩
  show w'.ownsRow 0 _ 2 u' (l ++ [(n, v)]).length (flat (l ++ [(n, v)]))
  rw [List.length_append, flat_app]
  exact ho
theorem step_append_run {P : Program} {ops : Array Oper} {o : Oper} {a : Act} {w : World} {K : Act → World → Prop} {Q : Exit → Act → World → Prop} {E : Prop} (hw : Region.wanted o (yielded ops a.tmps) = true) (s x : Operand) (t : TypeId)
    (ho : o.op = .call { callee := .builtin .append, args := #[s, x], argTypes := #[t, t] }) (v u v' : Value) (w' : World) (hs : a.eval s = v) (hx : a.eval x = u)
    (hrun : (Builtin.append_ #[t, t] o.type #[v, u]).run P w = .ok v' w') (h : K (a.put o.dst v') w') : if Region.wanted o (yielded ops a.tmps) = true then o.wp P a w K Q else E := by
  rw [if_pos hw]
  unfold Oper.wp execOp
  simp only [ho, resolve, invoke, builtin, Sem.run_bind, Sem.run_pure, Result.andThen_ok, List.map_toArray, List.map_cons, List.map_nil, hs, hx, hrun]
  exact h
/-- what a call that turns one table leaves alone -/
structure Upd (e : Bool) (g g' : Tg) (w w' : World) : Prop where
  keep : Keep (fun k => g k ≠ some (.tab e) ∧ ∀ i, g k ≠ some (.room e i)) w w'
  old : ∀ k, g k ≠ none → g' k = g k
  new : ∀ k, g' k ≠ none → g k ≠ none ∨ (w.heap.size ≤ k ∧ k < w'.heap.size)
theorem Upd.refl (e : Bool) (g : Tg) (w : World) : Upd e g g w w := ⟨Keep.refl _ _, fun _ _ => rfl, fun _ h => .inl h⟩
theorem Upd.below {e : Bool} {g : Tg} {w w' : World} (h : Below w.heap.size w w') : Upd e g g w w' := ⟨Keep.of_below h, fun _ _ => rfl, fun _ h => .inl h⟩
theorem Upd.trans {e : Bool} {g g1 g2 : Tg} {w w1 w2 : World} (h : Upd e g g1 w w1) (k : Upd e g1 g2 w1 w2) : Upd e g g2 w w2 where
  keep := ⟨k.keep.os.trans h.keep.os, k.keep.tape.trans h.keep.tape, k.keep.output.trans h.keep.output, Nat.le_trans h.keep.size k.keep.size, fun i hi hp => by
    refine (k.keep.block i (Nat.lt_of_lt_of_le hi h.keep.size) ?_).trans (h.keep.block i hi hp)
    by_cases hg : g i = none
    · have : g1 i = none := by
        cases h1 : g1 i with
        | none => rfl
        | some t =>
          rcases h.new i (by rw [h1]; simp) with h2 | h2
          · exact absurd hg h2
          · omega
      rw [this]
      exact ⟨by simp, fun _ => by simp⟩
    · rw [h.old i hg]
      exact hp⟩
  old := fun i hi => by rw [k.old i (by rw [h.old i hi]; exact hi), h.old i hi]
  new := fun i hi => by
    have s1 := h.keep.size
    have s2 := k.keep.size
    rcases k.new i hi with h1 | h1
    · rcases h.new i h1 with h2 | h2
      · exact .inl h2
      · exact .inr ⟨h2.1, by omega⟩
    · exact .inr ⟨by omega, h1.2⟩
theorem Upd.lt {e : Bool} {g g' : Tg} {w w' : World} {B : Nat} (h : Upd e g g' w w') (hlt : ∀ k, g k ≠ none → k < w.heap.size ∧ B ≤ k) (hB : B ≤ w.heap.size) : ∀ k, g' k ≠ none → k < w'.heap.size ∧ B ≤ k := fun k hk => by
  rcases h.new k hk with h1 | h1
  · exact ⟨Nat.lt_of_lt_of_le (hlt k h1).1 h.keep.size, (hlt k h1).2⟩
  · exact ⟨h1.2, by omega⟩
theorem Upd.env {e : Bool} {g g' : Tg} {w w' : World} {B : Nat} (h : Upd e g g' w w') (hE : Env B w) (hlt : ∀ k, g k ≠ none → k < w.heap.size ∧ B ≤ k) : Env B w' :=
  hE.turn (fun k hk => h.keep.block k (by have := hE.size; omega) (by
    have : g k = none := by
      cases h1 : g k with
      | none => rfl
      | some t => have := (hlt k (by rw [h1]; simp)).2; omega
    rw [this]
    exact ⟨by simp, fun _ => by simp⟩)) h.keep.size
/-- a room of a table turns, and its slice is stored -/
theorem TabIs.stored {w w' : World} {g : Tg} {e : Bool} {nb : Nat} {l : Tb Int} (h : TabIs w g e nb l) (hlt : ∀ k, g k ≠ none → k < w.heap.size) (i : Nat) (hi : i < l.length) (u u' : Value) (m : Its Int) (hu : w.cell? ⟨nb, i, none⟩ = some u) (hR : Room w' u' m)
    (hos : w'.os = w.os) (htp : w'.tape = w.tape) (hou : w'.output = w.output) (hs : w.heap.size ≤ w'.heap.size) (hk : ∀ k, k < w.heap.size → u.ownBlock ≠ some k → w'.heap[k]? = w.heap[k]?) (hwh : ∀ k, u'.ownBlock = some k → u.ownBlock = some k ∨ w.heap.size ≤ k) :
    ∃ g', TabIs (w'.setCell ⟨nb, i, none⟩ u') g' e nb (l.set i m) ∧ Upd e g g' w (w'.setCell ⟨nb, i, none⟩ u') := by
  have htag : g nb = some (.tab e) := by obtain ⟨_, _, _, t, _⟩ := h; exact t
  have hut : ∀ k, u.ownBlock = some k → g k = some (.room e i) := by
    obtain ⟨v, hv, _, _, hvt⟩ := h.room i hi
    rw [hu] at hv
    injection hv with hv
    rw [hv]
    exact hvt
  have hnb := hlt nb (by rw [htag]; simp)
  have hunb : u.ownBlock ≠ some nb := fun e => by
    have := hut nb e
    rw [htag] at this
    cases this
  have hgive : ∀ k, g k ≠ none → g.give u' (.room e i) k = g k := fun k hg => by
    by_cases hb : u'.ownBlock = some k
    · rw [g.give_own _ hb]
      rcases hwh k hb with h1 | h1
      · exact (hut k h1).symm
      · have := hlt k hg; omega
    · exact g.give_other _ hb
  have hu'nb : u'.ownBlock ≠ some nb := fun e => by
    rcases hwh nb e with h1 | h1
    · exact hunb h1
    · omega
  have hnw : w'.heap[nb]? = w.heap[nb]? := hk nb hnb hunb
  refine ⟨g.give u' (.room e i), h.set i u' m ?_ (hgive nb (by rw [htag]; simp)) ?_ (fun k hb => g.give_own _ hb) ?_, ⟨⟨?_, ?_, ?_, ?_, ?_⟩, hgive, ?_⟩⟩
  · intro rv hrv
    exact heap_setCell_same w' nb i rv _ u' (hnw.trans hrv)
  · exact hR.turn (fun k hb => heap_setCell_other _ _ _ _ (fun e => hu'nb (by rw [hb, e])))
  · intro k j hj hg
    refine ⟨(hgive k (by rw [hg]; simp)).trans hg, ?_⟩
    rw [heap_setCell_other _ _ _ _ (fun e => by rw [e, htag] at hg; cases hg)]
    exact hk k (hlt k (by rw [hg]; simp)) (fun e => by
      have := hut k e
      rw [hg] at this
      injection this with this
      injection this with _ this
      exact hj this)
  · exact hos
  · exact htp
  · exact hou
  · simpa using hs
  · intro k hkl hp
    rw [heap_setCell_other _ _ _ _ (fun e => hp.1 (by rw [e]; exact htag))]
    exact hk k hkl (fun e => hp.2 i (hut k e))
  · intro k hg
    by_cases hb : u'.ownBlock = some k
    · rcases hwh k hb with h1 | h1
      · exact .inl (by rw [hut k h1]; simp)
      · exact .inr ⟨h1, by simpa using hR.lt hb⟩
    · rw [g.give_other _ hb] at hg
      exact .inl hg
/-- a room of a table turns where it lies -/
theorem TabIs.inside {w w' : World} {g : Tg} {e : Bool} {nb : Nat} {l : Tb Int} (h : TabIs w g e nb l) (hlt : ∀ k, g k ≠ none → k < w.heap.size) (i : Nat) (hi : i < l.length) (u : Value) (m : Its Int) (hu : w.cell? ⟨nb, i, none⟩ = some u) (hR : Room w' u m)
    (hos : w'.os = w.os) (htp : w'.tape = w.tape) (hou : w'.output = w.output) (hs : w.heap.size ≤ w'.heap.size) (hk : ∀ k, k < w.heap.size → u.ownBlock ≠ some k → w'.heap[k]? = w.heap[k]?) :
    TabIs w' g e nb (l.set i m) ∧ Upd e g g w w' := by
  have htag : g nb = some (.tab e) := by obtain ⟨_, _, _, t, _⟩ := h; exact t
  have hut : ∀ k, u.ownBlock = some k → g k = some (.room e i) := by
    obtain ⟨v, hv, _, _, hvt⟩ := h.room i hi
    rw [hu] at hv
    injection hv with hv
    rw [hv]
    exact hvt
  have hnb := hlt nb (by rw [htag]; simp)
  have hunb : u.ownBlock ≠ some nb := fun e => by
    have := hut nb e
    rw [htag] at this
    cases this
  have hnw : w'.heap[nb]? = w.heap[nb]? := hk nb hnb hunb
  refine ⟨h.set i u m ?_ rfl hR hut ?_, ⟨⟨hos, htp, hou, hs, ?_⟩, fun _ _ => rfl, fun _ h => .inl h⟩⟩
  · intro rv hrv
    have hsame : rv.setIfInBounds i u = rv := by
      rw [cell_of_row w nb i _ _ _ hrv] at hu
      apply Array.ext_getElem?
      intro j
      by_cases hij : i = j
      · subst hij
        rw [Array.getElem?_setIfInBounds_self_of_lt (Array.getElem?_eq_some_iff.1 hu).1, hu]
      · rw [Array.getElem?_setIfInBounds_ne hij]
    rw [hsame]
    exact hnw.trans hrv
  · intro k j hj hg
    exact ⟨hg, hk k (hlt k (by rw [hg]; simp)) (fun e => by
      have := hut k e
      rw [hg] at this
      injection this with this
      injection this with _ this
      exact hj this)⟩
  · intro k hkl hp
    exact hk k hkl (fun e => hp.2 i (hut k e))
set_option maxHeartbeats 2000000 in
set_option maxRecDepth 100000 in
/-- add -/
theorem add_any {B : Nat} {w : World} {g : Tg} {nb : Nat} {l : Tb Int} (h : TabIs w g false nb l) (hlt : ∀ k, g k ≠ none → k < w.heap.size ∧ B ≤ k) (hE : Env B w) (h0 : 0 < l.length) (hl : l.length ≤ 1000000) (hr : ∀ i (h : i < l.length), l[i].length ≤ 1000000) (n : Nm) (v : Int) (hn : n.length ≤ 140737488351232) :
    Calls Tryd.prog 35 #[.slice (some ⟨nb, 0, none⟩) l.length l.length, .agg #[txt n, (.int .i64 v)]] w fun e w' => e = .returned (.tuple #[]) ∧ Hid (∃ g', TabIs w' g' false nb (add1 sumN l (n, v)) ∧ Upd false g g' w w') := by
  have hi : sumN n % l.length < l.length := Nat.mod_lt _ h0
  have hgd : l.getD (sumN n % l.length) [] = l[sumN n % l.length] := getD_at _ _ _ hi
  unfold add1
  rw [show ((n, v) : Nm × Int).1 = n from rfl, hgd]
  have hbx := below_alloc w (.cells #[txt n, (.int .i64 v)] 75)
  have HR := hid (room_env nb l.length n _ (hE.below hbx hE.size) h0 hl hn)
  have HBX := hid hbx
  have HQ := hid (heap_alloc_new w (.cells #[txt n, (.int .i64 v)] 75))
  generalize hI : sumN n % l.length = i at *
  obtain ⟨u, hu, huf, hru, hut⟩ := h.room i hi
  have hnb := (hlt nb (by obtain ⟨_, _, _, e, _⟩ := h; rw [e]; simp)).1
  have HRI := hid (hr i hi)
  have HT := hid h
  have HU := hid hu
  have HRU := hid hru
  have HUT := hid hut
  have HLT := hid hlt
  have HNB := hid hnb
  have hsz : (w.alloc (.cells #[txt n, (.int .i64 v)] 75)).heap.size = w.heap.size + 1 := by simp
  have HSZ := hid hsz
  have hz1 := hi
  clear h hlt hE hr hu huf hru hut hgd hbx hI hsz
  have q0 : (w.alloc (.cells #[txt n, (.int .i64 v)] 75)).cell? ⟨w.heap.size, 0, none⟩ = some (txt n) := cell_of_row _ _ 0 _ _ _ HQ.out
  go_enter Tryd.func35, Tryd.ntmps35
  go_wp2_with fail
  refine HR.out.mono ?_; rintro e w1 ⟨rfl, hb⟩
  have HB1 := hid (HBX.out.trans (hb.out.mono (by have := HSZ.out; omega)))
  have hq1 := (hb.out.block w.heap.size (by have := HSZ.out; omega)).trans HQ.out
  have y0 : w1.cell? ⟨w.heap.size, 0, none⟩ = some (txt n) := cell_of_row _ _ 0 _ _ _ hq1
  have y1 : w1.cell? ⟨w.heap.size, 1, none⟩ = some (.int .i64 v) := cell_of_row _ _ 1 _ _ _ hq1
  have x0 := cell_turn HU.out (HB1.out.block nb HNB.out)
  have hs1 : w.heap.size + 1 ≤ w1.heap.size := by have := hb.out.size; have := HSZ.out; omega
  have hT1 : TabIs w1 g false nb l := HT.out.turn (fun k e => ⟨e, HB1.out.block k (HLT.out k (by rw [e]; simp)).1⟩) (fun k i e => ⟨e, HB1.out.block k (HLT.out k (by rw [e]; simp)).1⟩)
  have HB2 := hid ((below_alloc w1 (.cells #[txt n, (.int .i64 v)] 75)).drew)
  have hR2 := HRU.out.turn (w' := (w1.alloc (.cells #[txt n, (.int .i64 v)] 75)).drew) (fun k hk => (HB2.out.block k (Nat.lt_of_lt_of_le (HRU.out.lt hk) HB1.out.size)).trans (HB1.out.block k (HRU.out.lt hk)))
  obtain ⟨u', w', hrun, hR', hgr, hwh⟩ := hR2.push HRI.out n v w1.heap.size (heap_alloc_new w1 _)
  have HRun := hid hrun
  have HR' := hid hR'
  have HGR := hid hgr
  have HWH := hid hwh
  have HT1 := hid hT1
  have HUO : Hid (u.ownBlock ≠ some nb) := fun e => by
    have h1 := HUT.out nb e
    obtain ⟨_, _, _, h2, _⟩ := HT.out
    rw [h2] at h1
    cases h1
  have hn1 : nb < w1.heap.size := Nat.lt_of_lt_of_le HNB.out HB1.out.size
  have hnw : w'.heap[nb]? = w1.heap[nb]? := (hgr.block nb (by simp; omega) (fun e => HUO.out e.symm)).trans (HB2.out.block nb hn1)
  have HNW := hid hnw
  have z0 := cell_turn x0 hnw
  have zf : w'.frozen? ⟨nb, i, none⟩ = false := by
    obtain ⟨rv, a, _⟩ := hT1
    exact frozen_of_row w' nb i _ _ (hnw.trans a)
  have HK := hid (HT.out.stored (fun k hk => (HLT.out k hk).1) i hi u u' _ HU.out hR' (hgr.os.trans (HB2.out.os.trans HB1.out.os)) (hgr.tape.trans (HB2.out.tape.trans HB1.out.tape)) (hgr.output.trans (HB2.out.output.trans HB1.out.output))
    (Nat.le_trans HB1.out.size (Nat.le_trans HB2.out.size hgr.size)) (fun k hkl hne => (hgr.block k (Nat.lt_of_lt_of_le hkl (Nat.le_trans HB1.out.size HB2.out.size)) (fun e => hne e.symm)).trans ((HB2.out.block k (Nat.lt_of_lt_of_le hkl HB1.out.size)).trans (HB1.out.block k hkl)))
    (fun k hb => by
      rcases hwh with e | e
      · exact .inl (by rw [← e]; exact hb)
      · rw [e] at hb
        injection hb with hb
        refine .inr ?_
        simp at hb
        omega))
  obtain ⟨p, c, rfl⟩ := HRU.out.shape
  obtain ⟨p', c', rfl⟩ := hR'.shape
  generalize hM : (l[i] ++ [(n, v)]).length = M at *
  clear hrun hR' hgr hwh hT1 hnw hR2 hq1 HGR HWH HT1 HR' hM
  go_wp2_with fail
  go_region_law (first
    | (refine step_append_run rfl _ _ 73 rfl _ _ _ _ rfl rfl HRun.out ?_))
  all_goals go_wp2_with fail
  all_goals go_end0
  all_goals exact ⟨rfl, HK⟩

end Go.Proofs.YtphegggekcjenaaDoor.DI
