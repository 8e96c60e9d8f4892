/- DESmall, DEGet, DEHalf. -/
import Derived.Laws.MakeOwn
import Derived.Test.YtcbncdigejjcpaaGreatDoorM24
namespace Go.Proofs.YtcbncdigejjcpaaGreatDoor.Dc.DE
open Go.RowKit

theorem infoR : (Tryz.prog.info? 88).map (fun i => (i.zero, i.size, i.bytes)) = some (some (.slice none 0 0), 1, 24) := by kernel_rfl
theorem make_tab (n : Nat) (k : Int) (hk : k = n) (hn : n ≤ 1000000) (u : World) : (Instr.makeSlice 81 (.int .i64 k) (.int .i64 k)).run Tryz.prog u =
    .ok (.slice (some ⟨u.heap.size, 0, none⟩) n n) (u.alloc (.cells (List.replicate n (.slice none 0 0)).toArray 88)) := by
  subst hk
  obtain ⟨i0, hi, hz0, hz1, hz2⟩ := info_parts infoR
  have h := run_make (P := Tryz.prog) u 81 88 i0 (.slice none 0 0) Tryz.underlying81 hi hz0 .i64 .i64 (n : Int) (n : Int) (by omega) (Int.le_refl _) (by rw [hz2]; omega) (by omega)
  have e : madeCells (Value.slice none 0 0).cells n = (List.replicate n (.slice none 0 0)).toArray := by
    apply Array.ext'
    rw [show (Value.slice none 0 0).cells = #[Value.slice none 0 0] from rfl, toList_madeCells_one]
  rw [hz1, Nat.mul_one, Int.toNat_natCast, e] at h
  exact h
theorem TabIs.empty (w : World) (g : Tg) (e : Bool) (nb k : Nat) (h : w.heap[nb]? = some (.cells (List.replicate k (.slice none 0 0)).toArray 88 (0, 0))) (hg : g nb = some (.tab e)) : TabIs w g e nb (List.replicate k []) :=
  ⟨_, h, by simp, hg, fun i hi => ⟨.slice none 0 0, by simp at hi; simp [hi], by simpa using Room.nil w, fun k h => by cases h⟩⟩
theorem TabIs.retag {w w' : World} {g g' : Tg} {e e' : Bool} {nb : Nat} {l : Tb E8} (h : TabIs w g e nb l) (h1 : ∀ k, g k = some (.tab e) → g' k = some (.tab e') ∧ w'.heap[k]? = w.heap[k]?) (h2 : ∀ k i, g k = some (.room e i) → g' k = some (.room e' i) ∧ w'.heap[k]? = w.heap[k]?) : TabIs w' g' e' nb l := by
  obtain ⟨rv, a, b, c, d⟩ := h
  refine ⟨rv, (h1 nb c).2.trans a, b, (h1 nb c).1, fun i hi => ?_⟩
  obtain ⟨u, x, y, z⟩ := d i hi
  exact ⟨u, x, y.turn (fun k hk => (h2 k i (z k hk)).2), fun k hk => (h2 k i (z k hk)).1⟩
set_option maxHeartbeats 2000000 in
set_option maxRecDepth 100000 in
/-- Len -/
theorem len_any {B : Nat} {w : World} {g : Tg} {b nb : Nat} {ev : Value} {T : TM E8} {many : Nat} (h : Lies B w g b nb ev T many) :
    Calls Tryz.prog 39 #[.pointer (some ⟨b, 0, none⟩)] w fun e w' => e = .returned (.int .i64 many) ∧ w' = w := by
  obtain ⟨_, _, _, c3⟩ := h.cells
  clear h
  go_enter Tryz.func39, Tryz.ntmps39
  go_wp2
  go_ret
  exact ⟨rfl, rfl⟩
set_option maxHeartbeats 2000000 in
set_option maxRecDepth 100000 in
/-- New -/
theorem new_any (w : World) :
    Calls Tryz.prog 25 #[] w fun e w' => e = .returned (.pointer (some ⟨w.heap.size + 1, 0, none⟩)) ∧ Hid (w' = (w.alloc (.cells (List.replicate 4 (.slice none 0 0)).toArray 88)).alloc (.cells #[.slice (some ⟨w.heap.size, 0, none⟩) 4 4, .slice none 0 0, .int .i64 0, .int .i64 0] 83)) := by
  have k1 := make_tab 4 4 rfl (by omega)
  generalize (List.replicate 4 (Value.slice none 0 0)).toArray = Z at *
  go_enter Tryz.func25, Tryz.ntmps25
  go_wp2
  go_ret
  exact ⟨rfl, rfl⟩
def newT (m : Nat) : Tg := fun k => if k = m then some (.tab false) else if k = m + 1 then some .dict else none
theorem new_lies (B : Nat) (w : World) (hB : B ≤ w.heap.size) : Lies B ((w.alloc (.cells (List.replicate 4 (.slice none 0 0)).toArray 88)).alloc (.cells #[.slice (some ⟨w.heap.size, 0, none⟩) 4 4, .slice none 0 0, .int .i64 0, .int .i64 0] 83)) (newT w.heap.size) (w.heap.size + 1) w.heap.size (.slice none 0 0) ⟨List.replicate 4 [], [], 0⟩ 0 where
  head := heap_alloc2_new w _ _
  tag := by unfold newT; rw [if_neg (by omega), if_pos rfl]
  nw := TabIs.empty _ _ _ _ 4 (heap_alloc2_old w _ _) (if_pos rfl)
  el := .inl ⟨rfl, rfl⟩
  lt := fun k hk => by
    unfold newT at hk
    split at hk
    · simp; omega
    · split at hk
      · simp; omega
      · exact absurd rfl hk
set_option maxHeartbeats 2000000 in
set_option maxRecDepth 100000 in
/-- begin -/
theorem begin_run {B : Nat} {w : World} {g : Tg} {b nb : Nat} {T : TM E8} {many : Nat} (h : Lies B w g b nb (.slice none 0 0) T many) (k : Nat) (hk : k ≤ 1000000) :
    Calls Tryz.prog 143 #[.pointer (some ⟨b, 0, none⟩), .int .i64 k] w fun e w' => e = .returned (.tuple #[]) ∧ Hid (w' = (((w.setCell ⟨b, 1, none⟩ (.slice (some ⟨nb, 0, none⟩) T.nw.length T.nw.length)).setCell ⟨b, 0, none⟩ (.slice (some ⟨w.heap.size, 0, none⟩) k k)).alloc (.cells (List.replicate k (.slice none 0 0)).toArray 88)).drew) := by
  have k1 := make_tab k k rfl hk
  obtain ⟨c0, c1, _, _⟩ := h.cells
  have f0 := h.frozen 0
  have f1 := h.frozen 1
  have hbl := (h.lt b (by rw [h.tag]; simp)).1
  generalize (List.replicate k (Value.slice none 0 0)).toArray = Z at *
  clear h
  go_enter Tryz.func143, Tryz.ntmps143
  go_wp2_with fail
  go_region
  all_goals go_wp2_with fail
  all_goals go_end0
  all_goals exact ⟨rfl, rfl⟩
/-- the newer table is the elder one -/
def Tg.next (g : Tg) (m : Nat) : Tg := fun k => if k = m then some (.tab false) else match g k with
  | some .dict => some .dict
  | some (.tab false) => some (.tab true)
  | some (.room false i) => some (.room true i)
  | _ => none
theorem Tg.next_some {g : Tg} {m k : Nat} (h : Tg.next g m k ≠ none) : k = m ∨ g k ≠ none := by
  unfold Tg.next at h
  split at h
  · exact .inl ‹_›
  · refine .inr (fun e => ?_)
    rw [e] at h
    exact h rfl
theorem begin_any {B : Nat} {w : World} {g : Tg} {b nb : Nat} {T : TM E8} {many : Nat} (h : Lies B w g b nb (.slice none 0 0) T many) (hB : B ≤ w.heap.size) (h0 : T.nw ≠ []) (k : Nat) (hk : k ≤ 1000000) :
    Calls Tryz.prog 143 #[.pointer (some ⟨b, 0, none⟩), .int .i64 k] w fun e w' => e = .returned (.tuple #[]) ∧ Hid (∃ g' nb' ev', Lies B w' g' b nb' ev' ⟨List.replicate k [], T.nw, T.tk⟩ many ∧ Turn g g' w w') := by
  refine (begin_run h k hk).mono fun e w' ⟨he, hw⟩ => ⟨he, ?_⟩
  have hw : w' = _ := hw
  subst hw
  have hbl := (h.lt b (by rw [h.tag]; simp)).1
  have hlt : ∀ i, g i ≠ none → i ≠ w.heap.size := fun i hi e => by have := (h.lt i hi).1; omega
  have hother : ∀ i, i ≠ b → i < w.heap.size → ((((w.setCell ⟨b, 1, none⟩ (.slice (some ⟨nb, 0, none⟩) T.nw.length T.nw.length)).setCell ⟨b, 0, none⟩ (.slice (some ⟨w.heap.size, 0, none⟩) k k)).alloc (.cells (List.replicate k (.slice none 0 0)).toArray 88)).drew).heap[i]? = w.heap[i]? := fun i hi hil => by
    show (((w.setCell _ _).setCell _ _).alloc _).heap[i]? = _
    rw [heap_alloc_old _ _ (by simpa using hil), heap_setCell_other _ _ _ _ hi, heap_setCell_other _ _ _ _ hi]
  have hnb : ∀ i, g i = some (.tab false) → (Tg.next g w.heap.size) i = some (.tab true) ∧ ((((w.setCell ⟨b, 1, none⟩ (.slice (some ⟨nb, 0, none⟩) T.nw.length T.nw.length)).setCell ⟨b, 0, none⟩ (.slice (some ⟨w.heap.size, 0, none⟩) k k)).alloc (.cells (List.replicate k (.slice none 0 0)).toArray 88)).drew).heap[i]? = w.heap[i]? := fun i hi =>
    ⟨by unfold Tg.next; rw [if_neg (hlt i (by rw [hi]; simp)), hi], hother i (fun e => by rw [e, h.tag] at hi; cases hi) (h.lt i (by rw [hi]; simp)).1⟩
  refine ⟨Tg.next g w.heap.size, w.heap.size, .slice (some ⟨nb, 0, none⟩) T.nw.length T.nw.length, ⟨?_, ?_, ?_, .inr ⟨nb, rfl, h0, ?_⟩, ?_⟩, ⟨⟨rfl, rfl, rfl, by simp, fun i hi hg => hother i (fun e => by rw [e, h.tag] at hg; cases hg) hi⟩, fun i hi => ?_⟩⟩
  · show (((w.setCell _ _).setCell _ _).alloc _).heap[b]? = _
    rw [heap_alloc_old _ _ (by simpa using hbl)]
    have := heap_setCell_same _ b 0 _ _ (.slice (some ⟨w.heap.size, 0, none⟩) k k) (heap_setCell_same _ b 1 _ _ (.slice (some ⟨nb, 0, none⟩) T.nw.length T.nw.length) h.head)
    simpa [headC] using this
  · unfold Tg.next; rw [if_neg (by omega), h.tag]
  · refine TabIs.empty _ _ _ _ k ?_ (if_pos rfl)
    have := heap_alloc_new ((w.setCell ⟨b, 1, none⟩ (.slice (some ⟨nb, 0, none⟩) T.nw.length T.nw.length)).setCell ⟨b, 0, none⟩ (.slice (some ⟨w.heap.size, 0, none⟩) k k)) (.cells (List.replicate k (.slice none 0 0)).toArray 88)
    rwa [show ((w.setCell ⟨b, 1, none⟩ (.slice (some ⟨nb, 0, none⟩) T.nw.length T.nw.length)).setCell ⟨b, 0, none⟩ (.slice (some ⟨w.heap.size, 0, none⟩) k k)).heap.size = w.heap.size by simp] at this
  · exact h.nw.retag hnb (fun i j hi => ⟨by unfold Tg.next; rw [if_neg (hlt i (by rw [hi]; simp)), hi], hother i (fun e => by rw [e, h.tag] at hi; cases hi) (h.lt i (by rw [hi]; simp)).1⟩)
  · intro i hi
    rcases Tg.next_some hi with rfl | hi
    · simp; omega
    · have := h.lt i hi
      simp; omega
  · rcases Tg.next_some hi with rfl | hi
    · exact .inr (Nat.le_refl _)
    · exact .inl hi


end Go.Proofs.YtcbncdigejjcpaaGreatDoor.Dc.DE

namespace Go.Proofs.YtcbncdigejjcpaaGreatDoor.Dc.DE
open Go.RowKit

/-- a name's place: table e, in block tb, room i, place k -/
structure Spot (w : World) (g : Tg) (nb : Nat) (el : Value) (T : TM E8) (n : Nm) (e : Bool) (tb : Nat) (l : Tb E8) (i k : Nat) : Prop where
  tab : TabIs w g e tb l
  hi : i < l.length
  hk : plc n (l[i]'hi) = some k
  is : (e = false ∧ tb = nb ∧ l = T.nw) ∨ (e = true ∧ el = .slice (some ⟨tb, 0, none⟩) T.el.length T.el.length ∧ l = T.el ∧ T.el ≠ [])
theorem Fit.of {T : TM E8} {D : DM E8} (G : Good sumN T D) (hS : Small 100000 D) : Fit T where
  n0 := by have := G.npos; omega
  nN := by rw [G.rooms]; have := hS.rooms; omega
  eN := by have := G.elN; have := G.rooms; have := hS.rooms; omega
  rN := fun i hi => by have := G.roomN i hi; have := hS.len; omega
  rE := fun i hi => by have := G.roomE i hi; have := hS.len; omega
theorem find_cases {B : Nat} {w : World} {g : Tg} {b nb : Nat} {el : Value} {T : TM E8} {D : DM E8} {many : Nat} (h : Lies B w g b nb el T many) (G : Good sumN T D) (hE : Env B w) (hF : Fit T) (n : Nm) (hn : n.length ≤ 140737488351232) :
    (∃ e tb l i k, Spot w g nb el T n e tb l i k ∧ Calls Tryz.prog 57 #[.pointer (some ⟨b, 0, none⟩), txt n] w fun e w' => e = .returned (.tuple #[.pointer (some ⟨tb, i, none⟩), .int .i64 (k : Nat)]) ∧ Hid (Below w.heap.size w w')) ∨
    (hasL n D.L = false ∧ ∃ q : Addr, Calls Tryz.prog 57 #[.pointer (some ⟨b, 0, none⟩), txt n] w fun e w' => e = .returned (.tuple #[.pointer (some q), .int .i64 (-1)]) ∧ Hid (Below w.heap.size w w')) := by
  have hi : sumN n % T.nw.length < T.nw.length := Nat.mod_lt _ hF.n0
  cases hp : plc n T.nw[sumN n % T.nw.length] with
  | some k => exact .inl ⟨false, nb, T.nw, _, k, ⟨h.nw, hi, hp, .inl ⟨rfl, rfl, rfl⟩⟩, find_new h hE hF n hn _ hi rfl k hp⟩
  | none =>
    rcases h.el with ⟨rfl, he⟩ | ⟨eb, rfl, hne, hT⟩
    · refine .inr ⟨G.lacks n (fun _ => plc_none hp) (fun hj => by rw [he] at hj; simp at hj), _, find_one h hE hF n hn _ hi rfl hp⟩
    · have hj : sumN n % T.el.length < T.el.length := Nat.mod_lt _ (Nat.pos_of_ne_zero (fun e => hne (List.eq_nil_of_length_eq_zero e)))
      have hf := find_two h hT hE hF n hn _ hi rfl hp _ hj rfl
      cases hq : plc n T.el[sumN n % T.el.length] with
      | some k =>
        rw [plcI_some hq] at hf
        exact .inl ⟨true, eb, T.el, _, k, ⟨hT, hj, hq, .inr ⟨rfl, rfl, rfl, hne⟩⟩, hf⟩
      | none =>
        rw [plcI_none hq] at hf
        exact .inr ⟨G.lacks n (fun _ => plc_none hp) (fun _ => plc_none hq), _, hf⟩
/-- what is there -/
theorem Spot.found {w : World} {g : Tg} {nb : Nat} {el : Value} {T : TM E8} {D : DM E8} {n : Nm} {e : Bool} {tb : Nat} {l : Tb E8} {i k : Nat} (s : Spot w g nb el T n e tb l i k) (G : Good sumN T D) (hS : Small 100000 D) :
    ∃ (v : E8) (c gr : Nat), (∃ hk : k < (l[i]'s.hi).length, (l[i]'s.hi)[k] = (n, v)) ∧ l[i]'s.hi = (l[i]'s.hi).take k ++ (n, v) :: (l[i]'s.hi).drop (k + 1) ∧ (l[i]'s.hi).length ≤ 100000 ∧ hasL n D.L = true ∧ getL n D.L = some v ∧
      w.cell? ⟨tb, i, none⟩ = some (.slice (some ⟨gr, 0, none⟩) (l[i]'s.hi).length c) ∧ Room w (.slice (some ⟨gr, 0, none⟩) (l[i]'s.hi).length c) (l[i]'s.hi) ∧ g tb ≠ none ∧ g gr ≠ none ∧ (w.cell? ⟨gr, k * 9 + 1, none⟩ = some (txt v.key) ∧ w.cell? ⟨gr, k * 9 + 2, none⟩ = some (.int .i64 v.m.kind) ∧ w.cell? ⟨gr, k * 9 + 3, none⟩ = some (txt v.m.text) ∧ w.cell? ⟨gr, k * 9 + 4, none⟩ = some (.slice v.pp v.m.pairs.length v.pc) ∧ w.cell? ⟨gr, k * 9 + 5, none⟩ = some (.slice v.ip v.m.items.length v.ic) ∧ w.cell? ⟨gr, k * 9 + 6, none⟩ = some (.int .i64 v.m.px) ∧ w.cell? ⟨gr, k * 9 + 7, none⟩ = some (.int .i64 v.m.py) ∧ w.cell? ⟨gr, k * 9 + 8, none⟩ = some (.int .i64 v.ends)) ∧ (∀ j, w.frozen? ⟨gr, j, none⟩ = false) ∧ w.frozen? ⟨tb, i, none⟩ = false ∧ ¬ tb = gr := by
  obtain ⟨v, hk, h1, h2⟩ := plc_some s.hk
  obtain ⟨u, hu, hf, hR, hut⟩ := s.tab.room i s.hi
  obtain ⟨p, c, rfl⟩ := hR.shape
  obtain ⟨gr, rfl, hc⟩ := hR.cells k hk
  have hlen : (l[i]'s.hi).length ≤ D.L.length := by
    rcases s.is with ⟨_, _, rfl⟩ | ⟨_, _, rfl, _⟩
    · exact G.roomN i s.hi
    · exact G.roomE i s.hi
  have hh : hasL n D.L = true ∧ getL n D.L = some v := by
    rcases s.is with ⟨_, _, rfl⟩ | ⟨_, _, rfl, _⟩
    · exact (G.foundN s.hi h2).2
    · exact (G.foundE s.hi h2).2
  have htb : g tb = some (.tab e) := by obtain ⟨_, _, _, t, _⟩ := s.tab; exact t
  have hgr := hut gr rfl
  refine ⟨v, c, gr, ⟨hk, h1⟩, h2, Nat.le_trans hlen hS.len, hh.1, hh.2, hu, hR, by rw [htb]; simp, by rw [hgr]; simp, ?_, ?_, hf, fun e => by rw [e, hgr] at htb; cases htb⟩
  · have := (hc k hk).2
    rwa [h1] at this
  · intro j
    rcases hR.2 with ⟨e, _⟩ | ⟨g', cap, cur, e, _, hg, _⟩
    · cases e
    · injection e with e
      injection e with e
      injection e with e
      rw [e]
      exact frozen_of_row w g' _ _ _ hg
/-- the entry that Get tells lies in a block of its own -/
theorem set8_below {B : Nat} {w W : World} {b : Nat} {v0 v1 v2 v3 v4 v5 v6 v7 : Value} (hW : Below B w W) (hb : B ≤ b) : Below B w ((((((((W.setCell ⟨b, 0, none⟩ v0).setCell ⟨b, 1, none⟩ v1).setCell ⟨b, 2, none⟩ v2).setCell ⟨b, 3, none⟩ v3).setCell ⟨b, 4, none⟩ v4).setCell ⟨b, 5, none⟩ v5).setCell ⟨b, 6, none⟩ v6).setCell ⟨b, 7, none⟩ v7) :=
  ((((((((hW.setCell (p := ⟨b, 0, none⟩) hb _).setCell (p := ⟨b, 1, none⟩) hb _).setCell (p := ⟨b, 2, none⟩) hb _).setCell (p := ⟨b, 3, none⟩) hb _).setCell (p := ⟨b, 4, none⟩) hb _).setCell (p := ⟨b, 5, none⟩) hb _).setCell (p := ⟨b, 6, none⟩) hb _).setCell (p := ⟨b, 7, none⟩) hb _)
theorem set8_same {W : World} {b : Nat} {c0 c1 c2 c3 c4 c5 c6 c7 : Value} (v0 v1 v2 v3 v4 v5 v6 v7 : Value) (h : W.heap[b]? = some (.cells #[c0, c1, c2, c3, c4, c5, c6, c7] 51 (0, 0))) : ((((((((W.setCell ⟨b, 0, none⟩ v0).setCell ⟨b, 1, none⟩ v1).setCell ⟨b, 2, none⟩ v2).setCell ⟨b, 3, none⟩ v3).setCell ⟨b, 4, none⟩ v4).setCell ⟨b, 5, none⟩ v5).setCell ⟨b, 6, none⟩ v6).setCell ⟨b, 7, none⟩ v7).heap[b]? = some (.cells #[v0, v1, v2, v3, v4, v5, v6, v7] 51 (0, 0)) := by
  have h0 : (W.setCell ⟨b, 0, none⟩ v0).heap[b]? = some (.cells #[v0, c1, c2, c3, c4, c5, c6, c7] 51 (0, 0)) := heap_setCell_same _ b 0 _ _ _ h
  have h1 : ((W.setCell ⟨b, 0, none⟩ v0).setCell ⟨b, 1, none⟩ v1).heap[b]? = some (.cells #[v0, v1, c2, c3, c4, c5, c6, c7] 51 (0, 0)) := heap_setCell_same _ b 1 _ _ _ h0
  have h2 : (((W.setCell ⟨b, 0, none⟩ v0).setCell ⟨b, 1, none⟩ v1).setCell ⟨b, 2, none⟩ v2).heap[b]? = some (.cells #[v0, v1, v2, c3, c4, c5, c6, c7] 51 (0, 0)) := heap_setCell_same _ b 2 _ _ _ h1
  have h3 : ((((W.setCell ⟨b, 0, none⟩ v0).setCell ⟨b, 1, none⟩ v1).setCell ⟨b, 2, none⟩ v2).setCell ⟨b, 3, none⟩ v3).heap[b]? = some (.cells #[v0, v1, v2, v3, c4, c5, c6, c7] 51 (0, 0)) := heap_setCell_same _ b 3 _ _ _ h2
  have h4 : (((((W.setCell ⟨b, 0, none⟩ v0).setCell ⟨b, 1, none⟩ v1).setCell ⟨b, 2, none⟩ v2).setCell ⟨b, 3, none⟩ v3).setCell ⟨b, 4, none⟩ v4).heap[b]? = some (.cells #[v0, v1, v2, v3, v4, c5, c6, c7] 51 (0, 0)) := heap_setCell_same _ b 4 _ _ _ h3
  have h5 : ((((((W.setCell ⟨b, 0, none⟩ v0).setCell ⟨b, 1, none⟩ v1).setCell ⟨b, 2, none⟩ v2).setCell ⟨b, 3, none⟩ v3).setCell ⟨b, 4, none⟩ v4).setCell ⟨b, 5, none⟩ v5).heap[b]? = some (.cells #[v0, v1, v2, v3, v4, v5, c6, c7] 51 (0, 0)) := heap_setCell_same _ b 5 _ _ _ h4
  have h6 : (((((((W.setCell ⟨b, 0, none⟩ v0).setCell ⟨b, 1, none⟩ v1).setCell ⟨b, 2, none⟩ v2).setCell ⟨b, 3, none⟩ v3).setCell ⟨b, 4, none⟩ v4).setCell ⟨b, 5, none⟩ v5).setCell ⟨b, 6, none⟩ v6).heap[b]? = some (.cells #[v0, v1, v2, v3, v4, v5, v6, c7] 51 (0, 0)) := heap_setCell_same _ b 6 _ _ _ h5
  have h7 : ((((((((W.setCell ⟨b, 0, none⟩ v0).setCell ⟨b, 1, none⟩ v1).setCell ⟨b, 2, none⟩ v2).setCell ⟨b, 3, none⟩ v3).setCell ⟨b, 4, none⟩ v4).setCell ⟨b, 5, none⟩ v5).setCell ⟨b, 6, none⟩ v6).setCell ⟨b, 7, none⟩ v7).heap[b]? = some (.cells #[v0, v1, v2, v3, v4, v5, v6, v7] 51 (0, 0)) := heap_setCell_same _ b 7 _ _ _ h6
  exact h7
set_option maxHeartbeats 2000000 in
set_option maxRecDepth 100000 in
/-- Get -/
theorem get_any {B : Nat} {w : World} {g : Tg} {b nb : Nat} {el : Value} {T : TM E8} {D : DM E8} {many : Nat} (h0 : Lies B w g b nb el T many) (G : Good sumN T D) (hE0 : Env B w) (hS : Small 100000 D) (n : Nm) (hn : n.length ≤ 140737488351232) :
    Calls Tryz.prog 32 #[.pointer (some ⟨b, 0, none⟩), txt n] w fun e w' => e = .returned (.tuple #[ev ((getL n D.L).getD e80), .bool (getL n D.L).isSome]) ∧ Hid (Below w.heap.size w w') := by
  have hba := below_alloc w (eob e80)
  have h := h0.below hba
  have hE := hE0.below hba hE0.size
  have HB0 := hid hba
  have HR0 := hid (ent_new w e80)
  have HZ : Hid ((w.alloc (eob e80)).heap.size = w.heap.size + 1) := by simp [Hid]
  clear h0 hE0 hba
  rcases find_cases h G hE (Fit.of G hS) n hn with ⟨e, tb, l, i, k, s, hf⟩ | ⟨hno, q, hf⟩
  · obtain ⟨v, c, gr, ⟨hk, h1⟩, -, hlen, -, hget, hu, -, htb, hgr, hv, -⟩ := s.found G hS
    rw [hget]
    have HF := hid hf
    have HU := hid hu
    have HV := hid hv
    have HTB := hid (h.lt tb htb).1
    have HGR := hid (h.lt gr hgr).1
    have hkz : (k : Int) < ((l[i]'s.hi).length : Int) := by omega
    clear h1
    generalize (l[i]'s.hi).length = m at *
    have hml : (m : Int) ≤ 100000 := by omega
    clear hf hu hv htb hgr hget hk h G hE s
    show Calls Tryz.prog 32 _ w fun e w' => e = .returned (.tuple #[ev v, .bool true]) ∧ _
    go_enter Tryz.func32, Tryz.ntmps32
    go_wp2_with fail
    refine HF.out.mono ?_; rintro e w1 ⟨rfl, hb⟩
    have x0 := cell_turn HU.out (hb.out.block tb HTB.out)
    obtain ⟨x1, x2, x3, x4, x5, x6, x7, x8⟩ := HV.out
    replace x1 := cell_turn x1 (hb.out.block gr HGR.out)
    replace x2 := cell_turn x2 (hb.out.block gr HGR.out)
    replace x3 := cell_turn x3 (hb.out.block gr HGR.out)
    replace x4 := cell_turn x4 (hb.out.block gr HGR.out)
    replace x5 := cell_turn x5 (hb.out.block gr HGR.out)
    replace x6 := cell_turn x6 (hb.out.block gr HGR.out)
    replace x7 := cell_turn x7 (hb.out.block gr HGR.out)
    replace x8 := cell_turn x8 (hb.out.block gr HGR.out)
    have HR := hid ((hb.out.block w.heap.size (by have := HZ.out; omega)).trans HR0.out)
    have HB := hid (HB0.out.trans (hb.out.mono HB0.out.size))
    obtain ⟨r0, r1, r2, r3, r4, r5, r6, r7⟩ := ent_facts HR.out
    obtain ⟨f0, f1, f2, f3, f4, f5, f6, f7⟩ := ent_frozen HR.out
    clear hb
    go_wp2_with fail
    refine bodyPost_ret (v := .tuple #[ev v, .bool true]) ?_ rfl ?_
    · exact ret_etel rfl rfl rfl (set8_same _ _ _ _ _ _ _ _ HR.out)
    · exact ⟨rfl, set8_below HB.out (Nat.le_refl _)⟩
  · rw [getL_none.2 hno]
    have HF := hid hf
    clear hf hno h G hE
    show Calls Tryz.prog 32 _ w fun e w' => e = .returned (.tuple #[ev e80, .bool false]) ∧ _
    go_enter Tryz.func32, Tryz.ntmps32
    go_wp2_with fail
    refine HF.out.mono ?_; rintro e w1 ⟨rfl, hb⟩
    have HR := hid ((hb.out.block w.heap.size (by have := HZ.out; omega)).trans HR0.out)
    have HB := hid (HB0.out.trans (hb.out.mono HB0.out.size))
    have hs1 : w.heap.size < w1.heap.size := by have := hb.out.size; have := HZ.out; omega
    have HR3 : Hid (w1.heap[w.heap.size]? = some (.cells #[.string ⟨#[]⟩, .int .i64 0, .string ⟨#[]⟩, .slice none 0 0, .slice none 0 0, .int .i64 0, .int .i64 0, .int .i64 0] 51 (0, 0))) := HR.out
    obtain ⟨r0, r1, r2, r3, r4, r5, r6, r7⟩ := ent_facts HR3.out
    obtain ⟨f0, f1, f2, f3, f4, f5, f6, f7⟩ := ent_frozen HR3.out
    clear hb HR HR0 HB0 HF
    go_wp2_with fail
    refine bodyPost_ret (v := .tuple #[.agg #[.string ⟨#[]⟩, .int .i64 0, .string ⟨#[]⟩, .slice none 0 0, .slice none 0 0, .int .i64 0, .int .i64 0, .int .i64 0], .bool false]) ?_ rfl ?_
    · exact ret_etel rfl rfl rfl ((heap_alloc_old _ _ (by simpa using hs1)).trans (set8_same _ _ _ _ _ _ _ _ HR3.out))
    · exact ⟨rfl, (set8_below HB.out (Nat.le_refl _)).alloc (by simp; omega) _⟩

end Go.Proofs.YtcbncdigejjcpaaGreatDoor.Dc.DE

namespace Go.Proofs.YtcbncdigejjcpaaGreatDoor.Dc.DE
open Go.RowKit

theorem put_len_has {L : Its E8} (hs : Srt L) {n : Nm} (h : hasL n L = true) (v : E8) : (put1 n v false L).length = L.length ∧ (delL n L).length + 1 = L.length := by
  obtain ⟨v0, hm⟩ := hasL_mem.1 h
  obtain ⟨a, b, rfl⟩ := List.append_of_mem hm
  have hp := (perm_del (R := a ++ b) hs List.perm_middle.symm).1.length_eq
  have hq := (put1_perm n v (a ++ (n, v0) :: b)).length_eq
  simp at hp hq ⊢
  omega
theorem put_len_not {L : Its E8} {n : Nm} (h : hasL n L = false) (v : E8) : (put1 n v false L).length = L.length + 1 := by
  rw [(put1_perm n v L).length_eq, del_none h]
  rfl
theorem flat_put (a b : Its E8) (n : Nm) (v0 v : E8) (x : List Value) (hx : x = flat (a ++ (n, v0) :: b)) : ((((((((x.set (a.length * 9 + 1) (txt v.key)).set (a.length * 9 + 2) (.int .i64 v.m.kind)).set (a.length * 9 + 3) (txt v.m.text)).set (a.length * 9 + 4) (.slice v.pp v.m.pairs.length v.pc)).set (a.length * 9 + 5) (.slice v.ip v.m.items.length v.ic)).set (a.length * 9 + 6) (.int .i64 v.m.px)).set (a.length * 9 + 7) (.int .i64 v.m.py)).set (a.length * 9 + 8) (.int .i64 v.ends)) = flat (a ++ (n, v) :: b) := by
  have e : ∀ (y : List Value) (i : Nat) (u : Value), (flat a ++ y).set (a.length * 9 + i) u = flat a ++ y.set i u := fun y i u => by
    rw [List.set_append_right _ _ (by rw [flat_len]; omega), flat_len, Nat.add_sub_cancel_left]
  rw [hx, flat_app, flat_app, flat_cons, flat_cons, e, e, e, e, e, e, e, e]
  rfl
/-- eight cells are stored -/
abbrev set8 (w : World) (gr o : Nat) (v : E8) : World := ((((((((w.setCell ⟨gr, o + 1, none⟩ (txt v.key)).setCell ⟨gr, o + 2, none⟩ (.int .i64 v.m.kind)).setCell ⟨gr, o + 3, none⟩ (txt v.m.text)).setCell ⟨gr, o + 4, none⟩ (.slice v.pp v.m.pairs.length v.pc)).setCell ⟨gr, o + 5, none⟩ (.slice v.ip v.m.items.length v.ic)).setCell ⟨gr, o + 6, none⟩ (.int .i64 v.m.px)).setCell ⟨gr, o + 7, none⟩ (.int .i64 v.m.py)).setCell ⟨gr, o + 8, none⟩ (.int .i64 v.ends))
theorem set8_other (w : World) (gr o : Nat) (v : E8) (k : Nat) (hk : k ≠ gr) : (set8 w gr o v).heap[k]? = w.heap[k]? := by
  rw [heap_setCell_other _ _ _ _ hk, heap_setCell_other _ _ _ _ hk, heap_setCell_other _ _ _ _ hk, heap_setCell_other _ _ _ _ hk, heap_setCell_other _ _ _ _ hk, heap_setCell_other _ _ _ _ hk, heap_setCell_other _ _ _ _ hk, heap_setCell_other _ _ _ _ hk]
theorem set8_facts (w : World) (gr o : Nat) (v : E8) : (set8 w gr o v).os = w.os ∧ (set8 w gr o v).tape = w.tape ∧ (set8 w gr o v).output = w.output ∧ (set8 w gr o v).heap.size = w.heap.size ∧ ∀ k, k ≠ gr → (set8 w gr o v).heap[k]? = w.heap[k]? := by
  have s1 : ∀ (w : World) (i : Nat) (u : Value), (w.setCell ⟨gr, i, none⟩ u).os = w.os := fun _ _ _ => rfl
  have s2 : ∀ (w : World) (i : Nat) (u : Value), (w.setCell ⟨gr, i, none⟩ u).tape = w.tape := fun _ _ _ => rfl
  have s3 : ∀ (w : World) (i : Nat) (u : Value), (w.setCell ⟨gr, i, none⟩ u).output = w.output := fun _ _ _ => rfl
  have s4 : ∀ (w : World) (i : Nat) (u : Value), (w.setCell ⟨gr, i, none⟩ u).heap.size = w.heap.size := fun _ _ _ => by simp
  refine ⟨?_, ?_, ?_, ?_, set8_other w gr o v⟩
  · rw [s1, s1, s1, s1, s1, s1, s1, s1]
  · rw [s2, s2, s2, s2, s2, s2, s2, s2]
  · rw [s3, s3, s3, s3, s3, s3, s3, s3]
  · rw [s4, s4, s4, s4, s4, s4, s4, s4]
/-- a value is stored -/
theorem Room.put {w : World} {gr m c : Nat} {l : Its E8} (h : Room w (.slice (some ⟨gr, 0, none⟩) m c) l) (a b : Its E8) (n : Nm) (v0 v : E8) (e : l = a ++ (n, v0) :: b) : Room (set8 w gr (a.length * 9) v) (.slice (some ⟨gr, 0, none⟩) m c) (a ++ (n, v) :: b) := by
  generalize hW : set8 w gr (a.length * 9) v = W
  subst e
  rcases h.2 with ⟨e, _⟩ | ⟨g, cap, cur, e, h0, hg, hn, hm, hs, ht⟩
  · cases e
  · injection e with e e2 e3
    injection e with e
    injection e with e
    subst e e2 e3
    have e1 : (a ++ (n, v) :: b).length = (a ++ (n, v0) :: b).length := by simp
    obtain ⟨cur1, q1⟩ : ∃ x, x = cur.setIfInBounds (a.length * 9 + 1) (txt v.key) := ⟨_, rfl⟩
    have g1 := heap_setCell_same _ gr (a.length * 9 + 1) _ _ (txt v.key) hg
    rw [← q1] at g1
    obtain ⟨cur2, q2⟩ : ∃ x, x = cur1.setIfInBounds (a.length * 9 + 2) (.int .i64 v.m.kind) := ⟨_, rfl⟩
    have g2 := heap_setCell_same _ gr (a.length * 9 + 2) _ _ (.int .i64 v.m.kind) g1
    rw [← q2] at g2
    obtain ⟨cur3, q3⟩ : ∃ x, x = cur2.setIfInBounds (a.length * 9 + 3) (txt v.m.text) := ⟨_, rfl⟩
    have g3 := heap_setCell_same _ gr (a.length * 9 + 3) _ _ (txt v.m.text) g2
    rw [← q3] at g3
    obtain ⟨cur4, q4⟩ : ∃ x, x = cur3.setIfInBounds (a.length * 9 + 4) (.slice v.pp v.m.pairs.length v.pc) := ⟨_, rfl⟩
    have g4 := heap_setCell_same _ gr (a.length * 9 + 4) _ _ (.slice v.pp v.m.pairs.length v.pc) g3
    rw [← q4] at g4
    obtain ⟨cur5, q5⟩ : ∃ x, x = cur4.setIfInBounds (a.length * 9 + 5) (.slice v.ip v.m.items.length v.ic) := ⟨_, rfl⟩
    have g5 := heap_setCell_same _ gr (a.length * 9 + 5) _ _ (.slice v.ip v.m.items.length v.ic) g4
    rw [← q5] at g5
    obtain ⟨cur6, q6⟩ : ∃ x, x = cur5.setIfInBounds (a.length * 9 + 6) (.int .i64 v.m.px) := ⟨_, rfl⟩
    have g6 := heap_setCell_same _ gr (a.length * 9 + 6) _ _ (.int .i64 v.m.px) g5
    rw [← q6] at g6
    obtain ⟨cur7, q7⟩ : ∃ x, x = cur6.setIfInBounds (a.length * 9 + 7) (.int .i64 v.m.py) := ⟨_, rfl⟩
    have g7 := heap_setCell_same _ gr (a.length * 9 + 7) _ _ (.int .i64 v.m.py) g6
    rw [← q7] at g7
    obtain ⟨cur8, q8⟩ : ∃ x, x = cur7.setIfInBounds (a.length * 9 + 8) (.int .i64 v.ends) := ⟨_, rfl⟩
    have g8 := heap_setCell_same _ gr (a.length * 9 + 8) _ _ (.int .i64 v.ends) g7
    rw [← q8] at g8
    refine ⟨by rw [flat_len], .inr ⟨gr, c, cur8, by rw [e1], h0, by rw [← hW]; exact g8, by rw [e1]; exact hn, hm, ?_, ?_⟩⟩
    · rw [q8, q7, q6, q5, q4, q3, q2, q1]
      simp only [Array.size_setIfInBounds]
      exact hs
    · rw [q8, q7, q6, q5, q4, q3, q2, q1]
      simp only [Array.toList_setIfInBounds, List.take_set]
      rw [e1]
      exact flat_put a b n v0 v _ ht
/-- what a call at a name's place does to the dict -/
theorem Spot.turned {B : Nat} {w w' : World} {g g' : Tg} {b nb : Nat} {ev : Value} {T : TM E8} {n : Nm} {e : Bool} {tb : Nat} {l : Tb E8} {i k : Nat} {many : Nat} (s : Spot w g nb ev T n e tb l i k) (h : Lies B w g b nb ev T many) (hB : B ≤ w.heap.size) (m : Its E8) (ht : TabIs w' g' e tb (l.set i m)) (hu : Upd e g g' w w') :
    Lies B w' g' b nb ev (if e then ⟨T.nw, T.el.set i m, T.tk⟩ else ⟨T.nw.set i m, T.el, T.tk⟩) many := by
  rcases s.is with ⟨rfl, rfl, rfl⟩ | ⟨rfl, rfl, rfl, hne⟩
  · exact h.updN hu hB ht (by simp)
  · have := h.updE hu hB ht (by simp) hne
    rw [List.length_set] at this
    exact this
theorem Spot.good_put {w : World} {g : Tg} {nb : Nat} {ev : Value} {T : TM E8} {D : DM E8} {n : Nm} {e : Bool} {tb : Nat} {l : Tb E8} {i k : Nat} (s : Spot w g nb ev T n e tb l i k) (G : Good sumN T D) {a b : Its E8} {v0 : E8} (he : l[i]'s.hi = a ++ (n, v0) :: b) (v : E8) :
    Good sumN (if e then ⟨T.nw, T.el.set i (a ++ (n, v) :: b), T.tk⟩ else ⟨T.nw.set i (a ++ (n, v) :: b), T.el, T.tk⟩) ⟨put1 n v false D.L, D.rooms, D.left⟩ := by
  rcases s.is with ⟨rfl, rfl, rfl⟩ | ⟨rfl, rfl, rfl, hne⟩
  · exact G.putN s.hi he v
  · exact G.putE s.hi he v
theorem Spot.good_del {w : World} {g : Tg} {nb : Nat} {ev : Value} {T : TM E8} {D : DM E8} {n : Nm} {e : Bool} {tb : Nat} {l : Tb E8} {i k : Nat} (s : Spot w g nb ev T n e tb l i k) (G : Good sumN T D) {a b : Its E8} {v0 : E8} (he : l[i]'s.hi = a ++ (n, v0) :: b) :
    Good sumN (if e then ⟨T.nw, T.el.set i (a ++ b), T.tk⟩ else ⟨T.nw.set i (a ++ b), T.el, T.tk⟩) ⟨delL n D.L, D.rooms, D.left⟩ := by
  rcases s.is with ⟨rfl, rfl, rfl⟩ | ⟨rfl, rfl, rfl, hne⟩
  · exact G.delN s.hi he
  · exact G.delE s.hi he
/-- a dict behind the first half of a call: a table may be begun yet -/
structure Half (B : Nat) (w : World) (b : Nat) (g g0 : Tg) (w0 : World) (nb : Nat) (ev : Value) (D : DM E8) (T : TM E8) : Prop where
  lies : Lies B w g b nb ev T D.L.length
  good : Good sumN T D
  env : Env B w
  turn : Turn g0 g w0 w
theorem Half.ev {B : Nat} {w : World} {b : Nat} {g g0 : Tg} {w0 : World} {nb : Nat} {ev : Value} {D : DM E8} {T : TM E8} (h : Half B w b g g0 w0 nb ev D T) : (ev = .slice none 0 0 ∧ T.el = []) ∨ ∃ eb n c, ev = .slice (some ⟨eb, 0, none⟩) n c ∧ T.el ≠ [] := by
  rcases h.lies.el with h | ⟨eb, h1, h2, _⟩
  · exact .inl h
  · exact .inr ⟨eb, _, _, h1, h2⟩
theorem Half.below {B : Nat} {w w' : World} {b : Nat} {g g0 : Tg} {w0 : World} {nb : Nat} {ev : Value} {D : DM E8} {T : TM E8} (h : Half B w b g g0 w0 nb ev D T) (hb : Below w.heap.size w w') : Half B w' b g g0 w0 nb ev D T :=
  ⟨h.lies.below hb, h.good, h.env.below hb h.env.size, h.turn.trans (Turn.below hb)⟩
theorem Spot.below {B : Nat} {w w' : World} {g : Tg} {b nb : Nat} {ev : Value} {T : TM E8} {n : Nm} {e : Bool} {tb : Nat} {l : Tb E8} {i k many : Nat} (s : Spot w g nb ev T n e tb l i k) (h : Lies B w g b nb ev T many) (hb : Below w.heap.size w w') : Spot w' g nb ev T n e tb l i k :=
  ⟨s.tab.turn (fun k e => ⟨e, hb.block k (h.lt k (by rw [e]; simp)).1⟩) (fun k i e => ⟨e, hb.block k (h.lt k (by rw [e]; simp)).1⟩), s.hi, s.hk, s.is⟩
/-- the second half of Put: another table is begun -/
theorem Half.grows {B : Nat} {w : World} {b : Nat} {g g0 : Tg} {w0 : World} {nb : Nat} {D : DM E8} {T : TM E8} (h : Half B w b g g0 w0 nb (.slice none 0 0) D T) (hS : Small 200000 D) (hl : D.rooms < D.L.length) (X : Int) (hX : X = (2 * D.rooms : Nat)) :
    Calls Tryz.prog 143 #[.pointer (some ⟨b, 0, none⟩), .int .i64 X] w fun e w' => e = .returned (.tuple #[]) ∧ Hid (∃ g' nb' ev' T', Half B w' b g' g0 w0 nb' ev' (grow D) T') := by
  have he : T.el = [] := by
    rcases h.ev with ⟨_, e⟩ | ⟨_, _, _, e, _⟩
    · exact e
    · cases e
  rw [hX]
  refine (begin_any h.lies h.env.size (fun e => by have := h.good.npos; rw [e] at this; simp at this) (2 * D.rooms) (by have := hS.len; omega)).mono fun e w' ⟨he', hh⟩ => ⟨he', ?_⟩
  obtain ⟨g', nb', ev', hL, hT⟩ := hh.out
  refine ⟨g', nb', ev', _, ?_, h.good.grown he hl, hT.env h.env h.lies.lt, h.turn.trans hT⟩
  rw [grow_L]
  exact hL
theorem Half.shrinks {B : Nat} {w : World} {b : Nat} {g g0 : Tg} {w0 : World} {nb : Nat} {D : DM E8} {T : TM E8} (h : Half B w b g g0 w0 nb (.slice none 0 0) D T) (hS : Small 200000 D) (h4 : 4 < D.rooms) (hl : 4 * D.L.length < D.rooms) (X : Int) (hX : X = (D.rooms / 2 : Nat)) :
    Calls Tryz.prog 143 #[.pointer (some ⟨b, 0, none⟩), .int .i64 X] w fun e w' => e = .returned (.tuple #[]) ∧ Hid (∃ g' nb' ev' T', Half B w' b g' g0 w0 nb' ev' (shrink D) T') := by
  have he : T.el = [] := by
    rcases h.ev with ⟨_, e⟩ | ⟨_, _, _, e, _⟩
    · exact e
    · cases e
  rw [hX]
  refine (begin_any h.lies h.env.size (fun e => by have := h.good.npos; rw [e] at this; simp at this) (D.rooms / 2) (by have := hS.rooms; omega)).mono fun e w' ⟨he', hh⟩ => ⟨he', ?_⟩
  obtain ⟨g', nb', ev', hL, hT⟩ := hh.out
  refine ⟨g', nb', ev', _, ?_, h.good.shrunk he h4 hl, hT.env h.env h.lies.lt, h.turn.trans hT⟩
  rw [shrink_L]
  exact hL
theorem Half.stays {B : Nat} {w : World} {b : Nat} {g g0 : Tg} {w0 : World} {nb : Nat} {ev : Value} {D : DM E8} {T : TM E8} (h : Half B w b g g0 w0 nb ev D T) (hn : ¬ (T.el = [] ∧ D.rooms < D.L.length)) : ∃ g' nb' ev' T', Half B w b g' g0 w0 nb' ev' (grow D) T' :=
  ⟨g, nb, ev, T, by rw [grow_L]; exact h.lies, h.good.stay hn, h.env, h.turn⟩
theorem Half.staysS {B : Nat} {w : World} {b : Nat} {g g0 : Tg} {w0 : World} {nb : Nat} {ev : Value} {D : DM E8} {T : TM E8} (h : Half B w b g g0 w0 nb ev D T) (hn : ¬ (T.el = [] ∧ 4 < D.rooms ∧ 4 * D.L.length < D.rooms)) : ∃ g' nb' ev' T', Half B w b g' g0 w0 nb' ev' (shrink D) T' :=
  ⟨g, nb, ev, T, by rw [shrink_L]; exact h.lies, h.good.stayS hn, h.env, h.turn⟩
/-- the first call of both: Step -/
theorem Half.step {B : Nat} {w : World} {b : Nat} {g g0 : Tg} {w0 : World} {nb : Nat} {ev : Value} {D : DM E8} {T : TM E8} (h : Half B w b g g0 w0 nb ev D T) (hS : Small 100000 D) (hnm : ∀ x ∈ D.L, x.1.length ≤ 140737488351232) :
    Calls Tryz.prog 141 #[.pointer (some ⟨b, 0, none⟩)] w fun e w' => e = .returned (.bool (stepB D)) ∧ Hid (∃ g' ev' T', Half B w' b g' g0 w0 nb ev' (stepD D) T') := by
  have hc := h.good.count
  have hb : decide (T.tk < T.el.length) = stepB D := by
    unfold stepB
    have h1 := h.good.left
    rcases h.good.tk with ⟨e1, e2⟩ | e
    · rw [e1, e2] at h1 ⊢
      rw [h1]; rfl
    · rw [decide_eq_true e, decide_eq_true (by omega)]
  rw [← hb]
  refine (step_any h.lies h.env (Fit.of h.good hS) (by have := hS.len; omega) h.good.tk (fun x hx => hnm x (h.good.perm.mem_iff.1 (List.mem_append_left _ hx)))).mono fun e w' ⟨he, hh⟩ => ⟨he, ?_⟩
  obtain ⟨g', ev', hL, hT⟩ := hh.out
  refine ⟨g', ev', _, hL, ?_, hT.env h.env h.lies.lt, h.turn.trans hT⟩
  split
  · exact h.good.took ‹_›
  · refine h.good.rest ?_
    rcases h.good.tk with ⟨e, _⟩ | e
    · exact e
    · exact absurd e ‹_›

end Go.Proofs.YtcbncdigejjcpaaGreatDoor.Dc.DE
