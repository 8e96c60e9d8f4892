/- The program's dict: where a name is; Get. -/
import Derived.Test.YtphegggekcjenaaDoorDISmall
namespace Go.Proofs.YtphegggekcjenaaDoor.DI
open Go.RowKit

/-- a name's place: table e, in block tb, room i, place k -/
structure Spot (w : World) (g : Tg) (nb : Nat) (ev : Value) (T : TM Int) (n : Nm) (e : Bool) (tb : Nat) (l : Tb Int) (i k : Nat) : Prop where
  tab : TabIs w g e tb l
  hi : i < l.length
  hk : plc n (l[i]'hi) = some k
  is : (e = false ∧ tb = nb ∧ l = T.nw) ∨ (e = true ∧ ev = .slice (some ⟨tb, 0, none⟩) T.el.length T.el.length ∧ l = T.el ∧ T.el ≠ [])
theorem Fit.of {T : TM Int} {D : DM Int} (G : Good sumN T D) (hS : Small 100000 D) : Fit T where
  n0 := by have := G.npos; omega
  nN := by rw [G.rooms]; have := hS.rooms; omega
  eN := by have := G.elN; have := G.rooms; have := hS.rooms; omega
  rN := fun i hi => by have := G.roomN i hi; have := hS.len; omega
  rE := fun i hi => by have := G.roomE i hi; have := hS.len; omega
theorem find_cases {B : Nat} {w : World} {g : Tg} {b nb : Nat} {ev : Value} {T : TM Int} {D : DM Int} {many : Nat} (h : Lies B w g b nb ev T many) (G : Good sumN T D) (hE : Env B w) (hF : Fit T) (n : Nm) (hn : n.length ≤ 140737488351232) :
    (∃ e tb l i k, Spot w g nb ev T n e tb l i k ∧ Calls Tryd.prog 37 #[.pointer (some ⟨b, 0, none⟩), txt n] w fun e w' => e = .returned (.tuple #[.pointer (some ⟨tb, i, none⟩), .int .i64 (k : Nat)]) ∧ Hid (Below w.heap.size w w')) ∨
    (hasL n D.L = false ∧ ∃ q : Addr, Calls Tryd.prog 37 #[.pointer (some ⟨b, 0, none⟩), txt n] w fun e w' => e = .returned (.tuple #[.pointer (some q), .int .i64 (-1)]) ∧ Hid (Below w.heap.size w w')) := by
  have hi : sumN n % T.nw.length < T.nw.length := Nat.mod_lt _ hF.n0
  cases hp : plc n T.nw[sumN n % T.nw.length] with
  | some k => exact .inl ⟨false, nb, T.nw, _, k, ⟨h.nw, hi, hp, .inl ⟨rfl, rfl, rfl⟩⟩, find_new h hE hF n hn _ hi rfl k hp⟩
  | none =>
    rcases h.el with ⟨rfl, he⟩ | ⟨eb, rfl, hne, hT⟩
    · refine .inr ⟨G.lacks n (fun _ => plc_none hp) (fun hj => by rw [he] at hj; simp at hj), _, find_one h hE hF n hn _ hi rfl hp⟩
    · have hj : sumN n % T.el.length < T.el.length := Nat.mod_lt _ (Nat.pos_of_ne_zero (fun e => hne (List.eq_nil_of_length_eq_zero e)))
      have hf := find_two h hT hE hF n hn _ hi rfl hp _ hj rfl
      cases hq : plc n T.el[sumN n % T.el.length] with
      | some k =>
        rw [plcI_some hq] at hf
        exact .inl ⟨true, eb, T.el, _, k, ⟨hT, hj, hq, .inr ⟨rfl, rfl, rfl, hne⟩⟩, hf⟩
      | none =>
        rw [plcI_none hq] at hf
        exact .inr ⟨G.lacks n (fun _ => plc_none hp) (fun _ => plc_none hq), _, hf⟩
/-- what is there -/
theorem Spot.found {w : World} {g : Tg} {nb : Nat} {ev : Value} {T : TM Int} {D : DM Int} {n : Nm} {e : Bool} {tb : Nat} {l : Tb Int} {i k : Nat} (s : Spot w g nb ev T n e tb l i k) (G : Good sumN T D) (hS : Small 100000 D) :
    ∃ (v : Int) (c gr : Nat), (∃ hk : k < (l[i]'s.hi).length, (l[i]'s.hi)[k] = (n, v)) ∧ l[i]'s.hi = (l[i]'s.hi).take k ++ (n, v) :: (l[i]'s.hi).drop (k + 1) ∧ (l[i]'s.hi).length ≤ 100000 ∧ hasL n D.L = true ∧ getL n D.L = some v ∧
      w.cell? ⟨tb, i, none⟩ = some (.slice (some ⟨gr, 0, none⟩) (l[i]'s.hi).length c) ∧ Room w (.slice (some ⟨gr, 0, none⟩) (l[i]'s.hi).length c) (l[i]'s.hi) ∧ g tb ≠ none ∧ g gr ≠ none ∧ w.cell? ⟨gr, k * 2 + 1, none⟩ = some (.int .i64 v) ∧ w.frozen? ⟨gr, k * 2 + 1, none⟩ = false ∧ w.frozen? ⟨tb, i, none⟩ = false ∧ ¬ tb = gr := by
  obtain ⟨v, hk, h1, h2⟩ := plc_some s.hk
  obtain ⟨u, hu, hf, hR, hut⟩ := s.tab.room i s.hi
  obtain ⟨p, c, rfl⟩ := hR.shape
  obtain ⟨gr, rfl, hc⟩ := hR.cells k hk
  have hlen : (l[i]'s.hi).length ≤ D.L.length := by
    rcases s.is with ⟨_, _, rfl⟩ | ⟨_, _, rfl, _⟩
    · exact G.roomN i s.hi
    · exact G.roomE i s.hi
  have hh : hasL n D.L = true ∧ getL n D.L = some v := by
    rcases s.is with ⟨_, _, rfl⟩ | ⟨_, _, rfl, _⟩
    · exact (G.foundN s.hi h2).2
    · exact (G.foundE s.hi h2).2
  have htb : g tb = some (.tab e) := by obtain ⟨_, _, _, t, _⟩ := s.tab; exact t
  have hgr := hut gr rfl
  refine ⟨v, c, gr, ⟨hk, h1⟩, h2, Nat.le_trans hlen hS.len, hh.1, hh.2, hu, hR, by rw [htb]; simp, by rw [hgr]; simp, ?_, ?_, hf, fun e => by rw [e, hgr] at htb; cases htb⟩
  · have := (hc k hk).2
    rwa [h1] at this
  · rcases hR.2 with ⟨e, _⟩ | ⟨g', cap, cur, e, _, hg, _⟩
    · cases e
    · injection e with e
      injection e with e
      injection e with e
      rw [e]
      exact frozen_of_row w g' _ _ _ hg
set_option maxHeartbeats 2000000 in
set_option maxRecDepth 100000 in
/-- Get -/
theorem get_any {B : Nat} {w : World} {g : Tg} {b nb : Nat} {ev : Value} {T : TM Int} {D : DM Int} {many : Nat} (h : Lies B w g b nb ev T many) (G : Good sumN T D) (hE : Env B w) (hS : Small 100000 D) (n : Nm) (hn : n.length ≤ 140737488351232) :
    Calls Tryd.prog 19 #[.pointer (some ⟨b, 0, none⟩), txt n] w fun e w' => e = .returned (.tuple #[(.int .i64 ((getL n D.L).getD 0)), .bool (getL n D.L).isSome]) ∧ Hid (Below w.heap.size w w') := by
  rcases find_cases h G hE (Fit.of G hS) n hn with ⟨e, tb, l, i, k, s, hf⟩ | ⟨hno, q, hf⟩
  · obtain ⟨v, c, gr, ⟨hk, h1⟩, -, hlen, -, hget, hu, -, htb, hgr, hv, -⟩ := s.found G hS
    rw [hget]
    have HF := hid hf
    have HU := hid hu
    have HV := hid hv
    have HTB := hid (h.lt tb htb).1
    have HGR := hid (h.lt gr hgr).1
    have hkz : (k : Int) < ((l[i]'s.hi).length : Int) := by omega
    clear h1
    generalize (l[i]'s.hi).length = m at *
    have hml : (m : Int) ≤ 100000 := by omega
    clear hf hu hv htb hgr hget hk h G hE s
    show Calls Tryd.prog 19 _ w fun e w' => e = .returned (.tuple #[(.int .i64 v), .bool true]) ∧ _
    go_enter Tryd.func19, Tryd.ntmps19
    go_wp2_with fail
    refine HF.out.mono ?_; rintro e w1 ⟨rfl, hb⟩
    have x0 := cell_turn HU.out (hb.out.block tb HTB.out)
    have x1 := cell_turn HV.out (hb.out.block gr HGR.out)
    go_wp2_with fail
    go_ret2
    exact ⟨rfl, hb⟩
  · rw [getL_none.2 hno]
    have HF := hid hf
    clear hf hno h G hE
    show Calls Tryd.prog 19 _ w fun e w' => e = .returned (.tuple #[(.int .i64 (0)), .bool false]) ∧ _
    go_enter Tryd.func19, Tryd.ntmps19
    go_wp2_with fail
    refine HF.out.mono ?_; rintro e w1 ⟨rfl, hb⟩
    go_wp2_with fail
    go_ret2
    exact ⟨rfl, hb⟩

end Go.Proofs.YtphegggekcjenaaDoor.DI
