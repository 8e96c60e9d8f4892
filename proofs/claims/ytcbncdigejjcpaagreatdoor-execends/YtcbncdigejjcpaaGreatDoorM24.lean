/- DEAdd, DEStep. -/
import Derived.Laws.OwnMore
import Derived.Test.YtcbncdigejjcpaaGreatDoorM22
import Derived.WalkSpells
namespace Go.Proofs.YtcbncdigejjcpaaGreatDoor.Dc.DE
open Go.RowKit

theorem infoP : (Tryz.prog.info? 90).map (fun i => (i.zero, i.size, i.bytes)) = some (some (.agg #[.string ⟨#[]⟩, .string ⟨#[]⟩, .int .i64 0, .string ⟨#[]⟩, .slice none 0 0, .slice none 0 0, .int .i64 0, .int .i64 0, .int .i64 0]), 9, 128) := by kernel_rfl
/-- an append leaves a room where it was, or lays a new one -/
theorem push_where (w : World) (u : Value) (n : Nat) (xs : List Value) (hown : w.ownsRow 0 90 9 u n xs) (a : Addr) (news : List Value) (hl : news.length = 9) (hnews : ∀ j u, news[j]? = some u → w.cell? (a.add j) = some u) (h1 : ∀ u ∈ news, u.oneCell' = true) (hn : n ≤ 1000000000) (u' : Value) (w' : World)
    (hrun : (Builtin.append_ #[88, 88] 88 #[u, .slice (some a) 1 1]).run Tryz.prog w = .ok u' w') : u'.ownBlock = u.ownBlock ∨ u'.ownBlock = some w.heap.size := by
  obtain ⟨i0, hi, hz0, hz1, hz2⟩ := info_parts infoP
  have hl' : news.length = 1 * i0.size := by rw [hz1, hl]
  rcases hown.2 with ⟨rfl, rfl⟩ | ⟨g, cap, cur, rfl, hbg, hg, hnc, hcm, hcs, htake⟩
  · have hr := run_append_nil (P := Tryz.prog) w 88 88 90 i0 _ Tryz.underlying88 hi hz0 a 1 1 news hl' hnews (by omega) (by omega) (by rw [hz2]; omega)
    rw [hr] at hrun
    injection hrun with hrun _
    rw [← hrun]
    exact .inr rfl
  · by_cases hroom : n + 1 ≤ cap
    · have hr := run_append_room (P := Tryz.prog) w 88 88 90 i0 Tryz.underlying88 hi g n cap cur hg a 1 1 news hl' hnews h1 hroom (by rw [hl, hcs, hz1]; omega)
      rw [hr] at hrun
      injection hrun with hrun _
      rw [← hrun]
      exact .inl rfl
    · have holds : ∀ j u, xs[j]? = some u → w.cell? ((⟨g, 0, none⟩ : Addr).add j) = some u := hown.cells (g := g) rfl
      have hr := run_append_grow (P := Tryz.prog) w 88 88 90 i0 _ Tryz.underlying88 hi hz0 ⟨g, 0, none⟩ n cap xs (by rw [hz1]; exact hown.1) holds a 1 1 news hl' hnews (by omega) (by omega) (growslice_fits (by omega) (by rw [hz2]; omega))
      rw [hr] at hrun
      injection hrun with hrun _
      rw [← hrun]
      exact .inr rfl
/-- a name and its value are put behind a room's -/
theorem Room.push {w : World} {u : Value} {l : Its E8} (h : Room w u l) (hl : l.length ≤ 1000000) (n : Nm) (v : E8) (q : Nat) (hq : w.heap[q]? = some (.cells #[txt n, txt v.key, .int .i64 v.m.kind, txt v.m.text, .slice v.pp v.m.pairs.length v.pc, .slice v.ip v.m.items.length v.ic, .int .i64 v.m.px, .int .i64 v.m.py, .int .i64 v.ends] 90 (0, 0))) :
    ∃ u' w', (Builtin.append_ #[88, 88] 88 #[u, .slice (some ⟨q, 0, none⟩) 1 1]).run Tryz.prog w = .ok u' w' ∧ Room w' u' (l ++ [(n, v)]) ∧ w.grownBy w' u.ownBlock ∧ (u'.ownBlock = u.ownBlock ∨ u'.ownBlock = some w.heap.size) := by
  obtain ⟨i0, hi, hz0, hz1, hz2⟩ := info_parts infoP
  have hnews : ∀ j x, ([txt n, txt v.key, .int .i64 v.m.kind, txt v.m.text, .slice v.pp v.m.pairs.length v.pc, .slice v.ip v.m.items.length v.ic, .int .i64 v.m.px, .int .i64 v.m.py, .int .i64 v.ends] : List Value)[j]? = some x → w.cell? ((⟨q, 0, none⟩ : Addr).add j) = some x := fun j x hj => by
    rw [Go.WideShapes.add_plain, cell_of_row _ _ _ _ _ _ hq]
    simpa using hj
  have hone : ∀ x ∈ ([txt n, txt v.key, .int .i64 v.m.kind, txt v.m.text, .slice v.pp v.m.pairs.length v.pc, .slice v.ip v.m.items.length v.ic, .int .i64 v.m.px, .int .i64 v.m.py, .int .i64 v.ends] : List Value), x.oneCell' = true := by
    intro x hx
    simp only [List.mem_cons, List.not_mem_nil, or_false] at hx
    rcases hx with rfl | rfl | rfl | rfl | rfl | rfl | rfl | rfl | rfl <;> rfl
  obtain ⟨u', w', hrun, ho, hgr, _⟩ := run_append_own (P := Tryz.prog) w 0 88 88 90 i0 (.agg #[.string ⟨#[]⟩, .string ⟨#[]⟩, .int .i64 0, .string ⟨#[]⟩, .slice none 0 0, .slice none 0 0, .int .i64 0, .int .i64 0, .int .i64 0]) 9 128 Tryz.underlying88 hi hz0 hz1 hz2 rfl (by decide) _ _ _ h ⟨q, 0, none⟩ 1 1 [txt n, txt v.key, .int .i64 v.m.kind, txt v.m.text, .slice v.pp v.m.pairs.length v.pc, .slice v.ip v.m.items.length v.ic, .int .i64 v.m.px, .int .i64 v.m.py, .int .i64 v.ends] rfl hnews hone (by unfold maxLen; omega) (by omega) (by omega)
  refine ⟨u', w', hrun, ?_, hgr, push_where w u l.length (flat l) h ⟨q, 0, none⟩ _ rfl hnews hone (by omega) u' w' hrun⟩
  show w'.ownsRow 0 _ 9 u' (l ++ [(n, v)]).length (flat (l ++ [(n, v)]))
  rw [List.length_append, flat_app]
  exact ho
theorem step_append_run {P : Program} {ops : Array Oper} {o : Oper} {a : Act} {w : World} {K : Act → World → Prop} {Q : Exit → Act → World → Prop} {E : Prop} (hw : Region.wanted o (yielded ops a.tmps) = true) (s x : Operand) (t : TypeId)
    (ho : o.op = .call { callee := .builtin .append, args := #[s, x], argTypes := #[t, t] }) (v u v' : Value) (w' : World) (hs : a.eval s = v) (hx : a.eval x = u)
    (hrun : (Builtin.append_ #[t, t] o.type #[v, u]).run P w = .ok v' w') (h : K (a.put o.dst v') w') : if Region.wanted o (yielded ops a.tmps) = true then o.wp P a w K Q else E := by
  rw [if_pos hw]
  unfold Oper.wp execOp
  simp only [ho, resolve, invoke, builtin, Sem.run_bind, Sem.run_pure, Result.andThen_ok, List.map_toArray, List.map_cons, List.map_nil, hs, hx, hrun]
  exact h
/-- what a call that turns one table leaves alone -/
structure Upd (e : Bool) (g g' : Tg) (w w' : World) : Prop where
  keep : Keep (fun k => g k ≠ some (.tab e) ∧ ∀ i, g k ≠ some (.room e i)) w w'
  old : ∀ k, g k ≠ none → g' k = g k
  new : ∀ k, g' k ≠ none → g k ≠ none ∨ (w.heap.size ≤ k ∧ k < w'.heap.size)
theorem Upd.below {e : Bool} {g : Tg} {w w' : World} (h : Below w.heap.size w w') : Upd e g g w w' := ⟨Keep.of_below h, fun _ _ => rfl, fun _ h => .inl h⟩
theorem Upd.trans {e : Bool} {g g1 g2 : Tg} {w w1 w2 : World} (h : Upd e g g1 w w1) (k : Upd e g1 g2 w1 w2) : Upd e g g2 w w2 where
  keep := ⟨k.keep.os.trans h.keep.os, k.keep.tape.trans h.keep.tape, k.keep.output.trans h.keep.output, Nat.le_trans h.keep.size k.keep.size, fun i hi hp => by
    refine (k.keep.block i (Nat.lt_of_lt_of_le hi h.keep.size) ?_).trans (h.keep.block i hi hp)
    by_cases hg : g i = none
    · have : g1 i = none := by
        cases h1 : g1 i with
        | none => rfl
        | some t =>
          rcases h.new i (by rw [h1]; simp) with h2 | h2
          · exact absurd hg h2
          · omega
      rw [this]
      exact ⟨by simp, fun _ => by simp⟩
    · rw [h.old i hg]
      exact hp⟩
  old := fun i hi => by rw [k.old i (by rw [h.old i hi]; exact hi), h.old i hi]
  new := fun i hi => by
    have s1 := h.keep.size
    have s2 := k.keep.size
    rcases k.new i hi with h1 | h1
    · rcases h.new i h1 with h2 | h2
      · exact .inl h2
      · exact .inr ⟨h2.1, by omega⟩
    · exact .inr ⟨by omega, h1.2⟩
theorem Upd.lt {e : Bool} {g g' : Tg} {w w' : World} {B : Nat} (h : Upd e g g' w w') (hlt : ∀ k, g k ≠ none → k < w.heap.size ∧ B ≤ k) (hB : B ≤ w.heap.size) : ∀ k, g' k ≠ none → k < w'.heap.size ∧ B ≤ k := fun k hk => by
  rcases h.new k hk with h1 | h1
  · exact ⟨Nat.lt_of_lt_of_le (hlt k h1).1 h.keep.size, (hlt k h1).2⟩
  · exact ⟨h1.2, by omega⟩
theorem Upd.env {e : Bool} {g g' : Tg} {w w' : World} {B : Nat} (h : Upd e g g' w w') (hE : Env B w) (hlt : ∀ k, g k ≠ none → k < w.heap.size ∧ B ≤ k) : Env B w' :=
  hE.turn (fun k hk => h.keep.block k (by have := hE.size; omega) (by
    have : g k = none := by
      cases h1 : g k with
      | none => rfl
      | some t => have := (hlt k (by rw [h1]; simp)).2; omega
    rw [this]
    exact ⟨by simp, fun _ => by simp⟩)) h.keep.size
/-- a room of a table turns, and its slice is stored -/
theorem TabIs.stored {w w' : World} {g : Tg} {e : Bool} {nb : Nat} {l : Tb E8} (h : TabIs w g e nb l) (hlt : ∀ k, g k ≠ none → k < w.heap.size) (i : Nat) (hi : i < l.length) (u u' : Value) (m : Its E8) (hu : w.cell? ⟨nb, i, none⟩ = some u) (hR : Room w' u' m)
    (hos : w'.os = w.os) (htp : w'.tape = w.tape) (hou : w'.output = w.output) (hs : w.heap.size ≤ w'.heap.size) (hk : ∀ k, k < w.heap.size → u.ownBlock ≠ some k → w'.heap[k]? = w.heap[k]?) (hwh : ∀ k, u'.ownBlock = some k → u.ownBlock = some k ∨ w.heap.size ≤ k) :
    ∃ g', TabIs (w'.setCell ⟨nb, i, none⟩ u') g' e nb (l.set i m) ∧ Upd e g g' w (w'.setCell ⟨nb, i, none⟩ u') := by
  have htag : g nb = some (.tab e) := by obtain ⟨_, _, _, t, _⟩ := h; exact t
  have hut : ∀ k, u.ownBlock = some k → g k = some (.room e i) := by
    obtain ⟨v, hv, _, _, hvt⟩ := h.room i hi
    rw [hu] at hv
    injection hv with hv
    rw [hv]
    exact hvt
  have hnb := hlt nb (by rw [htag]; simp)
  have hunb : u.ownBlock ≠ some nb := fun e => by
    have := hut nb e
    rw [htag] at this
    cases this
  have hgive : ∀ k, g k ≠ none → g.give u' (.room e i) k = g k := fun k hg => by
    by_cases hb : u'.ownBlock = some k
    · rw [g.give_own _ hb]
      rcases hwh k hb with h1 | h1
      · exact (hut k h1).symm
      · have := hlt k hg; omega
    · exact g.give_other _ hb
  have hu'nb : u'.ownBlock ≠ some nb := fun e => by
    rcases hwh nb e with h1 | h1
    · exact hunb h1
    · omega
  have hnw : w'.heap[nb]? = w.heap[nb]? := hk nb hnb hunb
  refine ⟨g.give u' (.room e i), h.set i u' m ?_ (hgive nb (by rw [htag]; simp)) ?_ (fun k hb => g.give_own _ hb) ?_, ⟨⟨?_, ?_, ?_, ?_, ?_⟩, hgive, ?_⟩⟩
  · intro rv hrv
    exact heap_setCell_same w' nb i rv _ u' (hnw.trans hrv)
  · exact hR.turn (fun k hb => heap_setCell_other _ _ _ _ (fun e => hu'nb (by rw [hb, e])))
  · intro k j hj hg
    refine ⟨(hgive k (by rw [hg]; simp)).trans hg, ?_⟩
    rw [heap_setCell_other _ _ _ _ (fun e => by rw [e, htag] at hg; cases hg)]
    exact hk k (hlt k (by rw [hg]; simp)) (fun e => by
      have := hut k e
      rw [hg] at this
      injection this with this
      injection this with _ this
      exact hj this)
  · exact hos
  · exact htp
  · exact hou
  · simpa using hs
  · intro k hkl hp
    rw [heap_setCell_other _ _ _ _ (fun e => hp.1 (by rw [e]; exact htag))]
    exact hk k hkl (fun e => hp.2 i (hut k e))
  · intro k hg
    by_cases hb : u'.ownBlock = some k
    · rcases hwh k hb with h1 | h1
      · exact .inl (by rw [hut k h1]; simp)
      · exact .inr ⟨h1, by simpa using hR.lt hb⟩
    · rw [g.give_other _ hb] at hg
      exact .inl hg
/-- a room of a table turns where it lies -/
theorem TabIs.inside {w w' : World} {g : Tg} {e : Bool} {nb : Nat} {l : Tb E8} (h : TabIs w g e nb l) (hlt : ∀ k, g k ≠ none → k < w.heap.size) (i : Nat) (hi : i < l.length) (u : Value) (m : Its E8) (hu : w.cell? ⟨nb, i, none⟩ = some u) (hR : Room w' u m)
    (hos : w'.os = w.os) (htp : w'.tape = w.tape) (hou : w'.output = w.output) (hs : w.heap.size ≤ w'.heap.size) (hk : ∀ k, k < w.heap.size → u.ownBlock ≠ some k → w'.heap[k]? = w.heap[k]?) :
    TabIs w' g e nb (l.set i m) ∧ Upd e g g w w' := by
  have htag : g nb = some (.tab e) := by obtain ⟨_, _, _, t, _⟩ := h; exact t
  have hut : ∀ k, u.ownBlock = some k → g k = some (.room e i) := by
    obtain ⟨v, hv, _, _, hvt⟩ := h.room i hi
    rw [hu] at hv
    injection hv with hv
    rw [hv]
    exact hvt
  have hnb := hlt nb (by rw [htag]; simp)
  have hunb : u.ownBlock ≠ some nb := fun e => by
    have := hut nb e
    rw [htag] at this
    cases this
  have hnw : w'.heap[nb]? = w.heap[nb]? := hk nb hnb hunb
  refine ⟨h.set i u m ?_ rfl hR hut ?_, ⟨⟨hos, htp, hou, hs, ?_⟩, fun _ _ => rfl, fun _ h => .inl h⟩⟩
  · intro rv hrv
    have hsame : rv.setIfInBounds i u = rv := by
      rw [cell_of_row w nb i _ _ _ hrv] at hu
      apply Array.ext_getElem?
      intro j
      by_cases hij : i = j
      · subst hij
        rw [Array.getElem?_setIfInBounds_self_of_lt (Array.getElem?_eq_some_iff.1 hu).1, hu]
      · rw [Array.getElem?_setIfInBounds_ne hij]
    rw [hsame]
    exact hnw.trans hrv
  · intro k j hj hg
    exact ⟨hg, hk k (hlt k (by rw [hg]; simp)) (fun e => by
      have := hut k e
      rw [hg] at this
      injection this with this
      injection this with _ this
      exact hj this)⟩
  · intro k hkl hp
    exact hk k hkl (fun e => hp.2 i (hut k e))
set_option maxHeartbeats 2000000 in
set_option maxRecDepth 100000 in
/-- add -/
theorem add_any {B : Nat} {w : World} {g : Tg} {nb : Nat} {l : Tb E8} (h : TabIs w g false nb l) (hlt : ∀ k, g k ≠ none → k < w.heap.size ∧ B ≤ k) (hE : Env B w) (h0 : 0 < l.length) (hl : l.length ≤ 1000000) (hr : ∀ i (h : i < l.length), l[i].length ≤ 1000000) (n : Nm) (v : E8) (hn : n.length ≤ 140737488351232) :
    Calls Tryz.prog 204 #[.slice (some ⟨nb, 0, none⟩) l.length l.length, .agg #[txt n, txt v.key, .int .i64 v.m.kind, txt v.m.text, .slice v.pp v.m.pairs.length v.pc, .slice v.ip v.m.items.length v.ic, .int .i64 v.m.px, .int .i64 v.m.py, .int .i64 v.ends]] w fun e w' => e = .returned (.tuple #[]) ∧ Hid (∃ g', TabIs w' g' false nb (add1 sumN l (n, v)) ∧ Upd false g g' w w') := by
  have hi : sumN n % l.length < l.length := Nat.mod_lt _ h0
  have hgd : l.getD (sumN n % l.length) [] = l[sumN n % l.length] := getD_at _ _ _ hi
  unfold add1
  rw [show ((n, v) : Nm × E8).1 = n from rfl, hgd]
  have hbx := below_alloc w (.cells #[txt n, txt v.key, .int .i64 v.m.kind, txt v.m.text, .slice v.pp v.m.pairs.length v.pc, .slice v.ip v.m.items.length v.ic, .int .i64 v.m.px, .int .i64 v.m.py, .int .i64 v.ends] 90)
  have HR := hid (room_env nb l.length n _ (hE.below hbx hE.size) h0 hl hn)
  have HBX := hid hbx
  have HQ := hid (heap_alloc_new w (.cells #[txt n, txt v.key, .int .i64 v.m.kind, txt v.m.text, .slice v.pp v.m.pairs.length v.pc, .slice v.ip v.m.items.length v.ic, .int .i64 v.m.px, .int .i64 v.m.py, .int .i64 v.ends] 90))
  generalize hI : sumN n % l.length = i at *
  obtain ⟨u, hu, huf, hru, hut⟩ := h.room i hi
  have hnb := (hlt nb (by obtain ⟨_, _, _, e, _⟩ := h; rw [e]; simp)).1
  have HRI := hid (hr i hi)
  have HT := hid h
  have HU := hid hu
  have HRU := hid hru
  have HUT := hid hut
  have HLT := hid hlt
  have HNB := hid hnb
  have hsz : (w.alloc (.cells #[txt n, txt v.key, .int .i64 v.m.kind, txt v.m.text, .slice v.pp v.m.pairs.length v.pc, .slice v.ip v.m.items.length v.ic, .int .i64 v.m.px, .int .i64 v.m.py, .int .i64 v.ends] 90)).heap.size = w.heap.size + 1 := by simp
  have HSZ := hid hsz
  have hz1 := hi
  clear h hlt hE hr hu huf hru hut hgd hbx hI hsz
  have q0 : (w.alloc (.cells #[txt n, txt v.key, .int .i64 v.m.kind, txt v.m.text, .slice v.pp v.m.pairs.length v.pc, .slice v.ip v.m.items.length v.ic, .int .i64 v.m.px, .int .i64 v.m.py, .int .i64 v.ends] 90)).cell? ⟨w.heap.size, 0, none⟩ = some (txt n) := cell_of_row _ _ 0 _ _ _ HQ.out
  go_enter Tryz.func204, Tryz.ntmps204
  go_wp2_with fail
  refine HR.out.mono ?_; rintro e w1 ⟨rfl, hb⟩
  have HB1 := hid (HBX.out.trans (hb.out.mono (by have := HSZ.out; omega)))
  have hq1 := (hb.out.block w.heap.size (by have := HSZ.out; omega)).trans HQ.out
  have y0 : w1.cell? ⟨w.heap.size, 0, none⟩ = some (txt n) := cell_of_row _ _ 0 _ _ _ hq1
  have y1 : w1.cell? ⟨w.heap.size, 1, none⟩ = some (txt v.key) := cell_of_row _ _ 1 _ _ _ hq1
  have y2 : w1.cell? ⟨w.heap.size, 2, none⟩ = some (.int .i64 v.m.kind) := cell_of_row _ _ 2 _ _ _ hq1
  have y3 : w1.cell? ⟨w.heap.size, 3, none⟩ = some (txt v.m.text) := cell_of_row _ _ 3 _ _ _ hq1
  have y4 : w1.cell? ⟨w.heap.size, 4, none⟩ = some (.slice v.pp v.m.pairs.length v.pc) := cell_of_row _ _ 4 _ _ _ hq1
  have y5 : w1.cell? ⟨w.heap.size, 5, none⟩ = some (.slice v.ip v.m.items.length v.ic) := cell_of_row _ _ 5 _ _ _ hq1
  have y6 : w1.cell? ⟨w.heap.size, 6, none⟩ = some (.int .i64 v.m.px) := cell_of_row _ _ 6 _ _ _ hq1
  have y7 : w1.cell? ⟨w.heap.size, 7, none⟩ = some (.int .i64 v.m.py) := cell_of_row _ _ 7 _ _ _ hq1
  have y8 : w1.cell? ⟨w.heap.size, 8, none⟩ = some (.int .i64 v.ends) := cell_of_row _ _ 8 _ _ _ hq1
  have x0 := cell_turn HU.out (HB1.out.block nb HNB.out)
  have hs1 : w.heap.size + 1 ≤ w1.heap.size := by have := hb.out.size; have := HSZ.out; omega
  have hT1 : TabIs w1 g false nb l := HT.out.turn (fun k e => ⟨e, HB1.out.block k (HLT.out k (by rw [e]; simp)).1⟩) (fun k i e => ⟨e, HB1.out.block k (HLT.out k (by rw [e]; simp)).1⟩)
  have HB2 := hid ((below_alloc w1 (.cells #[txt n, txt v.key, .int .i64 v.m.kind, txt v.m.text, .slice v.pp v.m.pairs.length v.pc, .slice v.ip v.m.items.length v.ic, .int .i64 v.m.px, .int .i64 v.m.py, .int .i64 v.ends] 90)).drew)
  have hR2 := HRU.out.turn (w' := (w1.alloc (.cells #[txt n, txt v.key, .int .i64 v.m.kind, txt v.m.text, .slice v.pp v.m.pairs.length v.pc, .slice v.ip v.m.items.length v.ic, .int .i64 v.m.px, .int .i64 v.m.py, .int .i64 v.ends] 90)).drew) (fun k hk => (HB2.out.block k (Nat.lt_of_lt_of_le (HRU.out.lt hk) HB1.out.size)).trans (HB1.out.block k (HRU.out.lt hk)))
  obtain ⟨u', w', hrun, hR', hgr, hwh⟩ := hR2.push HRI.out n v w1.heap.size (heap_alloc_new w1 _)
  have HRun := hid hrun
  have HR' := hid hR'
  have HGR := hid hgr
  have HWH := hid hwh
  have HT1 := hid hT1
  have HUO : Hid (u.ownBlock ≠ some nb) := fun e => by
    have h1 := HUT.out nb e
    obtain ⟨_, _, _, h2, _⟩ := HT.out
    rw [h2] at h1
    cases h1
  have hn1 : nb < w1.heap.size := Nat.lt_of_lt_of_le HNB.out HB1.out.size
  have hnw : w'.heap[nb]? = w1.heap[nb]? := (hgr.block nb (by simp; omega) (fun e => HUO.out e.symm)).trans (HB2.out.block nb hn1)
  have HNW := hid hnw
  have z0 := cell_turn x0 hnw
  have zf : w'.frozen? ⟨nb, i, none⟩ = false := by
    obtain ⟨rv, a, _⟩ := hT1
    exact frozen_of_row w' nb i _ _ (hnw.trans a)
  have HK := hid (HT.out.stored (fun k hk => (HLT.out k hk).1) i hi u u' _ HU.out hR' (hgr.os.trans (HB2.out.os.trans HB1.out.os)) (hgr.tape.trans (HB2.out.tape.trans HB1.out.tape)) (hgr.output.trans (HB2.out.output.trans HB1.out.output))
    (Nat.le_trans HB1.out.size (Nat.le_trans HB2.out.size hgr.size)) (fun k hkl hne => (hgr.block k (Nat.lt_of_lt_of_le hkl (Nat.le_trans HB1.out.size HB2.out.size)) (fun e => hne e.symm)).trans ((HB2.out.block k (Nat.lt_of_lt_of_le hkl HB1.out.size)).trans (HB1.out.block k hkl)))
    (fun k hb => by
      rcases hwh with e | e
      · exact .inl (by rw [← e]; exact hb)
      · rw [e] at hb
        injection hb with hb
        refine .inr ?_
        simp at hb
        omega))
  obtain ⟨p, c, rfl⟩ := HRU.out.shape
  obtain ⟨p', c', rfl⟩ := hR'.shape
  generalize hM : (l[i] ++ [(n, v)]).length = M at *
  clear hrun hR' hgr hwh hT1 hnw hR2 hq1 HGR HWH HT1 HR' hM
  go_wp2_with fail
  go_region_law (first
    | (refine step_append_run rfl _ _ 88 rfl _ _ _ _ rfl rfl HRun.out ?_))
  all_goals go_wp2_with fail
  all_goals go_end0
  all_goals exact ⟨rfl, HK⟩

end Go.Proofs.YtcbncdigejjcpaaGreatDoor.Dc.DE

namespace Go.Proofs.YtcbncdigejjcpaaGreatDoor.Dc.DE
open Go.RowKit

theorem eq_none : ∀ w, (binOp .eql 81 (.slice none 0 0) (.slice none 0 0)).run Tryz.prog w = .ok (.bool true) w := fun w => Lib.run_eql_slice_nil (P := Tryz.prog) w 81 88 none 0 0 0 0 Tryz.underlying81
theorem eq_some (a : Addr) (n c : Nat) : ∀ w, (binOp .eql 81 (.slice (some a) n c) (.slice none 0 0)).run Tryz.prog w = .ok (.bool false) w := fun w => Lib.run_eql_slice_nil (P := Tryz.prog) w 81 88 (some a) n c 0 0 Tryz.underlying81
/-- what a call that turns a dict leaves alone -/
structure Turn (g g' : Tg) (w w' : World) : Prop where
  keep : Keep (fun k => g k = none) w w'
  new : ∀ k, g' k ≠ none → g k ≠ none ∨ w.heap.size ≤ k
theorem Turn.refl (g : Tg) (w : World) : Turn g g w w := ⟨Keep.refl _ _, fun _ h => .inl h⟩
theorem Turn.trans {g g1 g2 : Tg} {w w1 w2 : World} (h : Turn g g1 w w1) (k : Turn g1 g2 w1 w2) : Turn g g2 w w2 where
  keep := ⟨k.keep.os.trans h.keep.os, k.keep.tape.trans h.keep.tape, k.keep.output.trans h.keep.output, Nat.le_trans h.keep.size k.keep.size, fun i hi hp => by
    refine (k.keep.block i (Nat.lt_of_lt_of_le hi h.keep.size) ?_).trans (h.keep.block i hi hp)
    cases h1 : g1 i with
    | none => rfl
    | some t =>
      rcases h.new i (by rw [h1]; simp) with h2 | h2
      · exact absurd hp h2
      · omega⟩
  new := fun i hi => by
    rcases k.new i hi with h1 | h1
    · exact h.new i h1
    · exact .inr (Nat.le_trans h.keep.size h1)
theorem Upd.turn {e : Bool} {g g' : Tg} {w w' : World} (h : Upd e g g' w w') : Turn g g' w w' :=
  ⟨h.keep.mono (fun k hk => by rw [hk]; exact ⟨by simp, fun _ => by simp⟩), fun k hk => (h.new k hk).imp id (·.1)⟩
theorem Turn.below {g : Tg} {w w' : World} (h : Below w.heap.size w w') : Turn g g w w' := ⟨Keep.of_below h, fun _ h => .inl h⟩
theorem Turn.env {g g' : Tg} {w w' : World} {B : Nat} (h : Turn g g' w w') (hE : Env B w) (hlt : ∀ k, g k ≠ none → k < w.heap.size ∧ B ≤ k) : Env B w' :=
  hE.turn (fun k hk => h.keep.block k (by have := hE.size; omega) (by
    cases h1 : g k with
    | none => rfl
    | some t => have := (hlt k (by rw [h1]; simp)).2; omega)) h.keep.size
/-- the head alone turns -/
theorem Turn.head {g : Tg} {w w' : World} {b : Nat} (hb : g b ≠ none) (ho : ∀ k, k ≠ b → w'.heap[k]? = w.heap[k]?) (hs : w'.heap.size = w.heap.size) (h1 : w'.os = w.os) (h2 : w'.tape = w.tape) (h3 : w'.output = w.output) : Turn g g w w' :=
  ⟨⟨h1, h2, h3, by omega, fun k _ hk => ho k (fun e => hb (by rw [← e]; exact hk))⟩, fun _ h => .inl h⟩
theorem Lies.updN {B : Nat} {w w' : World} {g g' : Tg} {b nb : Nat} {ev : Value} {T : TM E8} {many : Nat} (h : Lies B w g b nb ev T many) (u : Upd false g g' w w') (hB : B ≤ w.heap.size) {nw : Tb E8} (hT : TabIs w' g' false nb nw) (hl : nw.length = T.nw.length) : Lies B w' g' b nb ev ⟨nw, T.el, T.tk⟩ many where
  head := by
    rw [u.keep.block b (h.lt b (by rw [h.tag]; simp)).1 (by rw [h.tag]; exact ⟨by simp, fun _ => by simp⟩), h.head]
    simp [headC, hl]
  tag := (u.old b (by rw [h.tag]; simp)).trans h.tag
  nw := hT
  el := h.el.turn (fun k e => ⟨(u.old k (by rw [e]; simp)).trans e, u.keep.block k (h.lt k (by rw [e]; simp)).1 (by rw [e]; exact ⟨by simp, fun _ => by simp⟩)⟩)
    (fun k i e => ⟨(u.old k (by rw [e]; simp)).trans e, u.keep.block k (h.lt k (by rw [e]; simp)).1 (by rw [e]; exact ⟨by simp, fun _ => by simp⟩)⟩)
  lt := u.lt h.lt hB
theorem Lies.updE {B : Nat} {w w' : World} {g g' : Tg} {b nb eb : Nat} {T : TM E8} {many : Nat} (h : Lies B w g b nb (.slice (some ⟨eb, 0, none⟩) T.el.length T.el.length) T many) (u : Upd true g g' w w') (hB : B ≤ w.heap.size) {el : Tb E8} (hT : TabIs w' g' true eb el) (hl : el.length = T.el.length) (hne : T.el ≠ []) : Lies B w' g' b nb (.slice (some ⟨eb, 0, none⟩) el.length el.length) ⟨T.nw, el, T.tk⟩ many where
  head := by
    rw [u.keep.block b (h.lt b (by rw [h.tag]; simp)).1 (by rw [h.tag]; exact ⟨by simp, fun _ => by simp⟩), h.head]
    simp [headC, hl]
  tag := (u.old b (by rw [h.tag]; simp)).trans h.tag
  nw := h.nw.turn (fun k e => ⟨(u.old k (by rw [e]; simp)).trans e, u.keep.block k (h.lt k (by rw [e]; simp)).1 (by rw [e]; exact ⟨by simp, fun _ => by simp⟩)⟩)
    (fun k i e => ⟨(u.old k (by rw [e]; simp)).trans e, u.keep.block k (h.lt k (by rw [e]; simp)).1 (by rw [e]; exact ⟨by simp, fun _ => by simp⟩)⟩)
  el := .inr ⟨eb, rfl, fun e => hne (List.eq_nil_of_length_eq_zero (by rw [← hl, show el = [] from e]; rfl)), hT⟩
  lt := u.lt h.lt hB
theorem Lies.rehead {B : Nat} {w w' : World} {g : Tg} {b nb : Nat} {ev ev' : Value} {T T' : TM E8} {many many' : Nat} (h : Lies B w g b nb ev T many) (hb : w'.heap[b]? = some (.cells (headC nb ev' T' many') 83 (0, 0))) (ho : ∀ k, k ≠ b → w'.heap[k]? = w.heap[k]?) (hs : w'.heap.size = w.heap.size) (hn : T'.nw = T.nw) (hel : ElIs w g ev' T'.el) : Lies B w' g b nb ev' T' many' where
  head := hb
  tag := h.tag
  nw := by
    rw [hn]
    exact h.nw.turn (fun k e => ⟨e, ho k (fun e2 => by rw [e2, h.tag] at e; cases e)⟩) (fun k i e => ⟨e, ho k (fun e2 => by rw [e2, h.tag] at e; cases e)⟩)
  el := hel.turn (fun k e => ⟨e, ho k (fun e2 => by rw [e2, h.tag] at e; cases e)⟩) (fun k i e => ⟨e, ho k (fun e2 => by rw [e2, h.tag] at e; cases e)⟩)
  lt := fun k hk => by rw [hs]; exact h.lt k hk
set_option maxHeartbeats 2000000 in
set_option maxRecDepth 100000 in
/-- Step: there is one table -/
theorem step_none {B : Nat} {w : World} {g : Tg} {b nb : Nat} {T : TM E8} {many : Nat} (h : Lies B w g b nb (.slice none 0 0) T many) :
    Calls Tryz.prog 141 #[.pointer (some ⟨b, 0, none⟩)] w fun e w' => e = .returned (.bool false) ∧ w' = w := by
  obtain ⟨_, c1, _, _⟩ := h.cells
  have k1 := eq_none
  clear h
  go_enter Tryz.func141, Tryz.ntmps141
  go_wp2
  go_ret
  exact ⟨rfl, rfl⟩
set_option maxHeartbeats 2000000 in
set_option maxRecDepth 100000 in
/-- Step: there are two -/
theorem step_some {B : Nat} {w : World} {g : Tg} {b nb eb : Nat} {T : TM E8} {many : Nat} (h : Lies B w g b nb (.slice (some ⟨eb, 0, none⟩) T.el.length T.el.length) T many) (hT : TabIs w g true eb T.el) (hE : Env B w) (hF : Fit T) (hc : T.el.flatten.length + T.nw.flatten.length ≤ 1000000) (htk : T.tk < T.el.length) (hnm : ∀ x ∈ T.el[T.tk], x.1.length ≤ 140737488351232) :
    Calls Tryz.prog 141 #[.pointer (some ⟨b, 0, none⟩)] w fun e w' => e = .returned (.bool true) ∧ Hid (∃ g' ev', Lies B w' g' b nb ev' (tookT sumN T) many ∧ Turn g g' w w') := by
  obtain ⟨c0, c1, c2, c3⟩ := h.cells
  obtain ⟨u, hu, huf, hru, hut⟩ := hT.room T.tk htk
  have hrl : T.el[T.tk].length ≤ 1000000 := hF.rE T.tk htk
  have htN : T.el.length ≤ 1000000 := hF.eN
  have HH := hid h
  have HU := hid hu
  have HRU := hid hru
  have HUT := hid hut
  have HE := hid hE
  have HF := hid hF
  have HT := hid hT
  have HC := hid hc
  have HNM := hid hnm
  obtain ⟨p, c, rfl⟩ := hru.shape
  have htz : (T.tk : Int) < (T.el.length : Int) := by omega
  have htz2 : (T.tk : Int) + 1 ≤ 1000000 := by omega
  have k1 := eq_some ⟨eb, 0, none⟩ T.el.length T.el.length
  clear h hT hE hF hc hnm hru hut huf
  go_enter Tryz.func141, Tryz.ntmps141
  go_wp2_with fail
  go_region
  go_wp2_with fail
  go_loopw [4, 21] (fun _ v21 W => ∃ i : Nat, v21 = .int .i64 i ∧ i ≤ T.el[T.tk].length ∧ Hid (∃ g', Lies B W g' b nb (.slice (some ⟨eb, 0, none⟩) T.el.length T.el.length) ⟨adds sumN T.nw (T.el[T.tk].take i), T.el, T.tk⟩ many ∧ Upd false g g' w W)) (fun _ v21 _ => T.el[T.tk].length - (intOf v21).toNat)
  case atStart => exact ⟨0, rfl, Nat.zero_le _, g, HH.out.below (Below.refl _ w).drew, Upd.below (Below.refl _ w).drew⟩
  case round =>
    obtain ⟨i, rfl, hi, HI⟩ := hrel
    obtain ⟨g1, hL1, hU1⟩ := HI.out
    clear HI
    by_cases hlt : i < T.el[T.tk].length
    · have hlz : (i : Int) < (T.el[T.tk].length : Int) := by omega
      obtain ⟨gr, rfl, hcl⟩ := HRU.out.cells i hlt
      have hgr : wr.heap[gr]? = w.heap[gr]? := hU1.keep.block gr (HRU.out.lt rfl) (by rw [HUT.out gr rfl]; exact ⟨by simp, fun _ => by simp⟩)
      obtain ⟨x0, x1, x2, x3, x4, x5, x6, x7, x8⟩ := hcl i hlt
      replace x0 := cell_turn x0 hgr
      replace x1 := cell_turn x1 hgr
      replace x2 := cell_turn x2 hgr
      replace x3 := cell_turn x3 hgr
      replace x4 := cell_turn x4 hgr
      replace x5 := cell_turn x5 hgr
      replace x6 := cell_turn x6 hgr
      replace x7 := cell_turn x7 hgr
      replace x8 := cell_turn x8 hgr
      obtain ⟨y0, -⟩ := hL1.cells
      have HE1 := hid (hU1.env HE.out HH.out.lt)
      have HAl := hid (adds_len sumN (T.el[T.tk].take i) T.nw)
      have HAd := hid (adds_snoc sumN T.nw T.el[T.tk] i hlt)
      have HNi := hid (HNM.out T.el[T.tk][i] (List.getElem_mem _))
      have HRm : Hid (∀ j (hj : j < (adds sumN T.nw (T.el[T.tk].take i)).length), (adds sumN T.nw (T.el[T.tk].take i))[j].length ≤ 1000000) := fun j hj => by
        have := adds_room sumN T.nw (T.el[T.tk].take i) HF.out.n0 j hj
        have := room_len T.el T.tk htk
        have := HC.out
        have : (T.el[T.tk].take i).length ≤ T.el[T.tk].length := by rw [List.length_take]; omega
        omega
      have hbl : b < wr.heap.size := (hL1.lt b (by rw [hL1.tag]; simp)).1
      generalize T.el[T.tk][i] = x at *
      obtain ⟨n, v⟩ := x
      simp only at x0 x1 x2 x3 x4 x5 x6 x7 x8 HNi HAd
      generalize hA : adds sumN T.nw (T.el[T.tk].take i) = A at *
      have HBA := hid (below_alloc wr (.cells #[txt n, txt v.key, .int .i64 v.m.kind, txt v.m.text, .slice v.pp v.m.pairs.length v.pc, .slice v.ip v.m.items.length v.ic, .int .i64 v.m.px, .int .i64 v.m.py, .int .i64 v.ends] 90)).drew
      have HL2 := hid (hL1.below HBA.out)
      have HU2 := hid (hU1.trans (Upd.below HBA.out))
      have HA2 := hid (add_any HL2.out.nw HL2.out.lt (HE1.out.below HBA.out HE1.out.size) (by rw [HAl.out]; exact HF.out.n0) (by rw [HAl.out]; exact HF.out.nN) HRm.out n v HNi.out)
      clear hcl hgr hL1 hU1 hA
      go_wp2_with fail
      go_region_law (go_simp; go_at_call 204; refine HA2.out.mono ?_; rintro e w3 ⟨rfl, hh⟩)
      all_goals go_wp2_with fail
      all_goals obtain ⟨g3, hT3, hU3⟩ := hh.out
      all_goals exact ⟨⟨i + 1, by go_num, by omega, g3, by rw [HAd.out]; exact HL2.out.updN hU3 (HE1.out.below HBA.out HE1.out.size).size hT3 (add1_len _ _ _), HU2.out.trans hU3⟩, by simp [intOf]; omega⟩
    · obtain rfl : i = T.el[T.tk].length := by omega
      rw [List.take_length] at hL1
      have HAl := hid (adds_len sumN T.el[T.tk] T.nw)
      have HTk : Hid (tookT sumN T = if T.tk + 1 = T.el.length then ⟨adds sumN T.nw T.el[T.tk], [], 0⟩ else ⟨adds sumN T.nw T.el[T.tk], T.el.set T.tk [], T.tk + 1⟩) := by
        unfold Hid tookT
        rw [getD_at _ _ _ htk]
      generalize adds sumN T.nw T.el[T.tk] = A at *
      have hT1 : TabIs wr g1 true eb T.el := by
        rcases hL1.el with ⟨e, _⟩ | ⟨eb', e, _, h⟩
        · cases e
        · injection e with e
          injection e with e
          injection e with e
          rw [e]; exact h
      have hne : ¬ eb = b := fun e => by
        obtain ⟨_, _, _, h2, _⟩ := hT1
        rw [e, hL1.tag] at h2
        cases h2
      obtain ⟨u1, z0, zf, _, _⟩ := hT1.room T.tk htk
      have HS := hid (hT1.stored (w' := wr.drew) (fun k hk => (hL1.lt k hk).1) T.tk htk u1 (.slice none 0 0) [] z0 (Room.nil _) rfl rfl rfl (Nat.le_refl _) (fun _ _ _ => rfl) (fun k h => by cases h))
      obtain ⟨y0, y1, y2, y3⟩ := hL1.cells
      have f1 := hL1.frozen 1
      have f2 := hL1.frozen 2
      have HL1 := hid hL1
      have HU1 := hid hU1
      have HE1 := hid (hU1.env HE.out HH.out.lt)
      clear hL1 hU1 hT1
      have hk2 : (T.tk : Int) + 1 = ((T.tk + 1 : Nat) : Int) := by omega
      have HK2 := hid hk2
      clear hk2
      have HLE : Hid (∃ g2, Lies B (wr.drew.setCell ⟨eb, T.tk, none⟩ (.slice none 0 0)) g2 b nb (.slice (some ⟨eb, 0, none⟩) T.el.length T.el.length) ⟨A, T.el.set T.tk [], T.tk⟩ many ∧ Turn g g2 w (wr.drew.setCell ⟨eb, T.tk, none⟩ (.slice none 0 0))) := by
        obtain ⟨g2, hT2, hU2⟩ := HS.out
        have := Lies.updE (T := ⟨A, T.el, T.tk⟩) HL1.out hU2 HE1.out.size hT2 (by simp) (fun e => by simp only at e; rw [e] at htk; simp at htk)
        rw [List.length_set] at this
        exact ⟨g2, this, HU1.out.turn.trans hU2.turn⟩
      clear HS
      by_cases hlast : T.tk + 1 = T.el.length
      · have hlz : ((T.tk : Int) + 1) = (T.el.length : Int) := by omega
        rw [if_pos hlast] at HTk
        go_wp2_with fail
        go_region
        all_goals go_wp2_with fail
        all_goals go_region
        all_goals go_wp2_with fail
        all_goals go_ret
        all_goals obtain ⟨g2, hL2, hT2⟩ := HLE.out
        all_goals refine ⟨rfl, g2, .slice none 0 0, ?_, hT2.trans (Turn.head (b := b) (by rw [hL2.tag]; simp) ?_ ?_ rfl rfl rfl)⟩
        · rw [HTk.out]
          exact hL2.rehead (heap_setCell_same _ b 2 _ _ _ (heap_setCell_same _ b 1 _ _ _ (heap_setCell_same _ b 2 _ _ _ hL2.head))) (fun k hk => by
            show (((_ : World).setCell _ _).setCell _ _).heap[k]? = _
            rw [heap_setCell_other _ _ _ _ hk, heap_setCell_other _ _ _ _ hk]
            show ((_ : World).setCell _ _).heap[k]? = _
            rw [heap_setCell_other _ _ _ _ hk]; rfl) (by simp) rfl (.inl ⟨rfl, rfl⟩)
        · intro k hk
          show (((_ : World).setCell _ _).setCell _ _).heap[k]? = _
          rw [heap_setCell_other _ _ _ _ hk, heap_setCell_other _ _ _ _ hk]
          show ((_ : World).setCell _ _).heap[k]? = _
          rw [heap_setCell_other _ _ _ _ hk]; rfl
        · simp
      · have hlz : (((T.tk : Int) + 1) == (T.el.length : Int)) = false := by rw [beq_eq_false_iff_ne]; omega
        rw [if_neg hlast] at HTk
        clear hlast hlt hi
        go_wp2_with fail
        go_region
        all_goals go_wp2_with fail
        all_goals go_region
        all_goals go_wp2_with fail
        all_goals go_ret
        all_goals obtain ⟨g2, hL2, hT2⟩ := HLE.out
        all_goals refine ⟨rfl, g2, .slice (some ⟨eb, 0, none⟩) T.el.length T.el.length, ?_, hT2.trans (Turn.head (b := b) (by rw [hL2.tag]; simp) ?_ ?_ rfl rfl rfl)⟩
        · rw [HTk.out]
          refine hL2.rehead (ev' := .slice (some ⟨eb, 0, none⟩) T.el.length T.el.length) (T' := ⟨A, T.el.set T.tk [], T.tk + 1⟩) ?_ (fun k hk => by
            show ((_ : World).setCell _ _).heap[k]? = _
            rw [heap_setCell_other _ _ _ _ hk]; rfl) (by simp) rfl hL2.el
          have := heap_setCell_same _ b 2 _ _ (.int .i64 ((T.tk : Int) + 1)) hL2.head
          rw [HK2.out] at this
          exact this
        · intro k hk
          show ((_ : World).setCell _ _).heap[k]? = _
          rw [heap_setCell_other _ _ _ _ hk]; rfl
        · simp
/-- Step -/
theorem step_any {B : Nat} {w : World} {g : Tg} {b nb : Nat} {ev : Value} {T : TM E8} {many : Nat} (h : Lies B w g b nb ev T many) (hE : Env B w) (hF : Fit T) (hc : T.el.flatten.length + T.nw.flatten.length ≤ 1000000) (htk : (T.el = [] ∧ T.tk = 0) ∨ T.tk < T.el.length) (hnm : ∀ x ∈ T.el.flatten, x.1.length ≤ 140737488351232) :
    Calls Tryz.prog 141 #[.pointer (some ⟨b, 0, none⟩)] w fun e w' => e = .returned (.bool (decide (T.tk < T.el.length))) ∧ Hid (∃ g' ev', Lies B w' g' b nb ev' (if T.tk < T.el.length then tookT sumN T else T) many ∧ Turn g g' w w') := by
  rcases h.el with ⟨rfl, he⟩ | ⟨eb, rfl, hne, hT⟩
  · rw [if_neg (by rw [he]; simp), decide_eq_false (by rw [he]; simp)]
    exact (step_none h).mono fun e w' ⟨he, hw⟩ => ⟨he, by subst hw; exact ⟨g, _, h, Turn.refl _ _⟩⟩
  · have hk : T.tk < T.el.length := by
      rcases htk with ⟨e, _⟩ | h
      · exact absurd e hne
      · exact h
    rw [if_pos hk, decide_eq_true hk]
    exact step_some h hT hE hF hc hk (fun x hx => hnm x (List.mem_flatten.2 ⟨_, List.getElem_mem hk, hx⟩))

end Go.Proofs.YtcbncdigejjcpaaGreatDoor.Dc.DE
