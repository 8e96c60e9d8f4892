/- The program's dict: halves of Put and Delete. -/
import Derived.Test.YtphegggekcjenaaDoorDIGet
namespace Go.Proofs.YtphegggekcjenaaDoor.DI
open Go.RowKit

theorem put_len_has {L : Its Int} (hs : Srt L) {n : Nm} (h : hasL n L = true) (v : Int) : (put1 n v false L).length = L.length ∧ (delL n L).length + 1 = L.length := by
  obtain ⟨v0, hm⟩ := hasL_mem.1 h
  obtain ⟨a, b, rfl⟩ := List.append_of_mem hm
  have hp := (perm_del (R := a ++ b) hs List.perm_middle.symm).1.length_eq
  have hq := (put1_perm n v (a ++ (n, v0) :: b)).length_eq
  simp at hp hq ⊢
  omega
theorem put_len_not {L : Its Int} {n : Nm} (h : hasL n L = false) (v : Int) : (put1 n v false L).length = L.length + 1 := by
  rw [(put1_perm n v L).length_eq, del_none h]
  rfl
/-- a value is stored -/
theorem Room.put {w : World} {gr m c : Nat} {l : Its Int} (h : Room w (.slice (some ⟨gr, 0, none⟩) m c) l) (a b : Its Int) (n : Nm) (v0 v : Int) (e : l = a ++ (n, v0) :: b) : Room (w.setCell ⟨gr, a.length * 2 + 1, none⟩ (.int .i64 v)) (.slice (some ⟨gr, 0, none⟩) m c) (a ++ (n, v) :: b) := by
  subst e
  rcases h.2 with ⟨e, _⟩ | ⟨g, cap, cur, e, h0, hg, hn, hm, hs, ht⟩
  · cases e
  · injection e with e e2 e3
    injection e with e
    injection e with e
    subst e e2 e3
    refine ⟨by rw [flat_len], .inr ⟨gr, c, cur.setIfInBounds (a.length * 2 + 1) (.int .i64 v), ?_, h0, heap_setCell_same w gr _ _ _ _ hg, by simpa using hn, hm, by simpa using hs, ?_⟩⟩
    · simp
    · rw [Array.toList_setIfInBounds, List.take_set]
      have e1 : (a ++ (n, v) :: b).length = (a ++ (n, v0) :: b).length := by simp
      rw [e1, ht, flat_put]
/-- what a call at a name's place does to the dict -/
theorem Spot.turned {B : Nat} {w w' : World} {g g' : Tg} {b nb : Nat} {ev : Value} {T : TM Int} {n : Nm} {e : Bool} {tb : Nat} {l : Tb Int} {i k : Nat} {many : Nat} (s : Spot w g nb ev T n e tb l i k) (h : Lies B w g b nb ev T many) (hB : B ≤ w.heap.size) (m : Its Int) (ht : TabIs w' g' e tb (l.set i m)) (hu : Upd e g g' w w') :
    Lies B w' g' b nb ev (if e then ⟨T.nw, T.el.set i m, T.tk⟩ else ⟨T.nw.set i m, T.el, T.tk⟩) many := by
  rcases s.is with ⟨rfl, rfl, rfl⟩ | ⟨rfl, rfl, rfl, hne⟩
  · exact h.updN hu hB ht (by simp)
  · have := h.updE hu hB ht (by simp) hne
    rw [List.length_set] at this
    exact this
theorem Spot.good_put {w : World} {g : Tg} {nb : Nat} {ev : Value} {T : TM Int} {D : DM Int} {n : Nm} {e : Bool} {tb : Nat} {l : Tb Int} {i k : Nat} (s : Spot w g nb ev T n e tb l i k) (G : Good sumN T D) {a b : Its Int} {v0 : Int} (he : l[i]'s.hi = a ++ (n, v0) :: b) (v : Int) :
    Good sumN (if e then ⟨T.nw, T.el.set i (a ++ (n, v) :: b), T.tk⟩ else ⟨T.nw.set i (a ++ (n, v) :: b), T.el, T.tk⟩) ⟨put1 n v false D.L, D.rooms, D.left⟩ := by
  rcases s.is with ⟨rfl, rfl, rfl⟩ | ⟨rfl, rfl, rfl, hne⟩
  · exact G.putN s.hi he v
  · exact G.putE s.hi he v
theorem Spot.good_del {w : World} {g : Tg} {nb : Nat} {ev : Value} {T : TM Int} {D : DM Int} {n : Nm} {e : Bool} {tb : Nat} {l : Tb Int} {i k : Nat} (s : Spot w g nb ev T n e tb l i k) (G : Good sumN T D) {a b : Its Int} {v0 : Int} (he : l[i]'s.hi = a ++ (n, v0) :: b) :
    Good sumN (if e then ⟨T.nw, T.el.set i (a ++ b), T.tk⟩ else ⟨T.nw.set i (a ++ b), T.el, T.tk⟩) ⟨delL n D.L, D.rooms, D.left⟩ := by
  rcases s.is with ⟨rfl, rfl, rfl⟩ | ⟨rfl, rfl, rfl, hne⟩
  · exact G.delN s.hi he
  · exact G.delE s.hi he
/-- a dict behind the first half of a call: a table may be begun yet -/
structure Half (B : Nat) (w : World) (b : Nat) (g g0 : Tg) (w0 : World) (nb : Nat) (ev : Value) (D : DM Int) (T : TM Int) : Prop where
  lies : Lies B w g b nb ev T D.L.length
  good : Good sumN T D
  env : Env B w
  turn : Turn g0 g w0 w
theorem Half.ev {B : Nat} {w : World} {b : Nat} {g g0 : Tg} {w0 : World} {nb : Nat} {ev : Value} {D : DM Int} {T : TM Int} (h : Half B w b g g0 w0 nb ev D T) : (ev = .slice none 0 0 ∧ T.el = []) ∨ ∃ eb n c, ev = .slice (some ⟨eb, 0, none⟩) n c ∧ T.el ≠ [] := by
  rcases h.lies.el with h | ⟨eb, h1, h2, _⟩
  · exact .inl h
  · exact .inr ⟨eb, _, _, h1, h2⟩
theorem Half.below {B : Nat} {w w' : World} {b : Nat} {g g0 : Tg} {w0 : World} {nb : Nat} {ev : Value} {D : DM Int} {T : TM Int} (h : Half B w b g g0 w0 nb ev D T) (hb : Below w.heap.size w w') : Half B w' b g g0 w0 nb ev D T :=
  ⟨h.lies.below hb, h.good, h.env.below hb h.env.size, h.turn.trans (Turn.below hb)⟩
theorem Spot.below {B : Nat} {w w' : World} {g : Tg} {b nb : Nat} {ev : Value} {T : TM Int} {n : Nm} {e : Bool} {tb : Nat} {l : Tb Int} {i k many : Nat} (s : Spot w g nb ev T n e tb l i k) (h : Lies B w g b nb ev T many) (hb : Below w.heap.size w w') : Spot w' g nb ev T n e tb l i k :=
  ⟨s.tab.turn (fun k e => ⟨e, hb.block k (h.lt k (by rw [e]; simp)).1⟩) (fun k i e => ⟨e, hb.block k (h.lt k (by rw [e]; simp)).1⟩), s.hi, s.hk, s.is⟩
/-- the second half of Put: another table is begun -/
theorem Half.grows {B : Nat} {w : World} {b : Nat} {g g0 : Tg} {w0 : World} {nb : Nat} {D : DM Int} {T : TM Int} (h : Half B w b g g0 w0 nb (.slice none 0 0) D T) (hS : Small 200000 D) (hl : D.rooms < D.L.length) (X : Int) (hX : X = (2 * D.rooms : Nat)) :
    Calls Tryd.prog 39 #[.pointer (some ⟨b, 0, none⟩), .int .i64 X] w fun e w' => e = .returned (.tuple #[]) ∧ Hid (∃ g' nb' ev' T', Half B w' b g' g0 w0 nb' ev' (grow D) T') := by
  have he : T.el = [] := by
    rcases h.ev with ⟨_, e⟩ | ⟨_, _, _, e, _⟩
    · exact e
    · cases e
  rw [hX]
  refine (begin_any h.lies h.env.size (fun e => by have := h.good.npos; rw [e] at this; simp at this) (2 * D.rooms) (by have := hS.len; omega)).mono fun e w' ⟨he', hh⟩ => ⟨he', ?_⟩
  obtain ⟨g', nb', ev', hL, hT⟩ := hh.out
  refine ⟨g', nb', ev', _, ?_, h.good.grown he hl, hT.env h.env h.lies.lt, h.turn.trans hT⟩
  rw [grow_L]
  exact hL
theorem Half.shrinks {B : Nat} {w : World} {b : Nat} {g g0 : Tg} {w0 : World} {nb : Nat} {D : DM Int} {T : TM Int} (h : Half B w b g g0 w0 nb (.slice none 0 0) D T) (hS : Small 200000 D) (h4 : 4 < D.rooms) (hl : 4 * D.L.length < D.rooms) (X : Int) (hX : X = (D.rooms / 2 : Nat)) :
    Calls Tryd.prog 39 #[.pointer (some ⟨b, 0, none⟩), .int .i64 X] w fun e w' => e = .returned (.tuple #[]) ∧ Hid (∃ g' nb' ev' T', Half B w' b g' g0 w0 nb' ev' (shrink D) T') := by
  have he : T.el = [] := by
    rcases h.ev with ⟨_, e⟩ | ⟨_, _, _, e, _⟩
    · exact e
    · cases e
  rw [hX]
  refine (begin_any h.lies h.env.size (fun e => by have := h.good.npos; rw [e] at this; simp at this) (D.rooms / 2) (by have := hS.rooms; omega)).mono fun e w' ⟨he', hh⟩ => ⟨he', ?_⟩
  obtain ⟨g', nb', ev', hL, hT⟩ := hh.out
  refine ⟨g', nb', ev', _, ?_, h.good.shrunk he h4 hl, hT.env h.env h.lies.lt, h.turn.trans hT⟩
  rw [shrink_L]
  exact hL
theorem Half.stays {B : Nat} {w : World} {b : Nat} {g g0 : Tg} {w0 : World} {nb : Nat} {ev : Value} {D : DM Int} {T : TM Int} (h : Half B w b g g0 w0 nb ev D T) (hn : ¬ (T.el = [] ∧ D.rooms < D.L.length)) : ∃ g' nb' ev' T', Half B w b g' g0 w0 nb' ev' (grow D) T' :=
  ⟨g, nb, ev, T, by rw [grow_L]; exact h.lies, h.good.stay hn, h.env, h.turn⟩
theorem Half.staysS {B : Nat} {w : World} {b : Nat} {g g0 : Tg} {w0 : World} {nb : Nat} {ev : Value} {D : DM Int} {T : TM Int} (h : Half B w b g g0 w0 nb ev D T) (hn : ¬ (T.el = [] ∧ 4 < D.rooms ∧ 4 * D.L.length < D.rooms)) : ∃ g' nb' ev' T', Half B w b g' g0 w0 nb' ev' (shrink D) T' :=
  ⟨g, nb, ev, T, by rw [shrink_L]; exact h.lies, h.good.stayS hn, h.env, h.turn⟩
/-- the first call of both: Step -/
theorem Half.step {B : Nat} {w : World} {b : Nat} {g g0 : Tg} {w0 : World} {nb : Nat} {ev : Value} {D : DM Int} {T : TM Int} (h : Half B w b g g0 w0 nb ev D T) (hS : Small 100000 D) (hnm : ∀ x ∈ D.L, x.1.length ≤ 140737488351232) :
    Calls Tryd.prog 15 #[.pointer (some ⟨b, 0, none⟩)] w fun e w' => e = .returned (.bool (stepB D)) ∧ Hid (∃ g' ev' T', Half B w' b g' g0 w0 nb ev' (stepD D) T') := by
  have hc := h.good.count
  have hb : decide (T.tk < T.el.length) = stepB D := by
    unfold stepB
    have h1 := h.good.left
    rcases h.good.tk with ⟨e1, e2⟩ | e
    · rw [e1, e2] at h1 ⊢
      rw [h1]; rfl
    · rw [decide_eq_true e, decide_eq_true (by omega)]
  rw [← hb]
  refine (step_any h.lies h.env (Fit.of h.good hS) (by have := hS.len; omega) h.good.tk (fun x hx => hnm x (h.good.perm.mem_iff.1 (List.mem_append_left _ hx)))).mono fun e w' ⟨he, hh⟩ => ⟨he, ?_⟩
  obtain ⟨g', ev', hL, hT⟩ := hh.out
  refine ⟨g', ev', _, hL, ?_, hT.env h.env h.lies.lt, h.turn.trans hT⟩
  split
  · exact h.good.took ‹_›
  · refine h.good.rest ?_
    rcases h.good.tk with ⟨e, _⟩ | e
    · exact e
    · exact absurd e ‹_›

end Go.Proofs.YtphegggekcjenaaDoor.DI
