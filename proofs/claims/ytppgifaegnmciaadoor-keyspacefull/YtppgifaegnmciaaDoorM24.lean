/- DENames, DEDq, DEDel, DEClone, DECloneA. -/
import Derived.Test.YtppgifaegnmciaaDoorM17
import Derived.Test.YtppgifaegnmciaaDoorM09
import Derived.Test.YtppgifaegnmciaaDoorM21
import Derived.Test.YtppgifaegnmciaaDoorM22
import Derived.Laws.CopyRow
import Derived.Laws.OwnMore
import Derived.Deep.RegionHeld3
namespace Go.Proofs.YtppgifaegnmciaaDoor.Dc.DE
open Go.RowKit

/-- a table that may be read -/
def TabV (w : World) (p : Option Addr) (l : Tb E8) : Prop := ∀ r (h : r < l.length), ∃ nb u, p = some ⟨nb, 0, none⟩ ∧ nb < w.heap.size ∧ w.cell? ⟨nb, r, none⟩ = some u ∧ Room w u l[r]
theorem TabIs.tabV {w : World} {g : Tg} {e : Bool} {nb : Nat} {l : Tb E8} (h : TabIs w g e nb l) : TabV w (some ⟨nb, 0, none⟩) l := fun r hr => by
  obtain ⟨u, h1, _, h2, _⟩ := h.room r hr
  refine ⟨nb, u, rfl, ?_, h1, h2⟩
  obtain ⟨rv, a, _⟩ := h
  exact (Array.getElem?_eq_some_iff.1 a).1
theorem ElIs.tabV {w : World} {g : Tg} {ev : Value} {l : Tb E8} (h : ElIs w g ev l) : ∃ p c, ev = .slice p l.length c ∧ TabV w p l := by
  rcases h with ⟨rfl, rfl⟩ | ⟨eb, rfl, _, h⟩
  · exact ⟨none, 0, rfl, fun r hr => by simp at hr⟩
  · exact ⟨_, _, rfl, h.tabV⟩
/-- one more text behind, in a row that was made -/
theorem pushS {B : Nat} {W : World} {gN m d : Nat} {A : Row} (h : Own B W (.slice (some ⟨gN, 0, none⟩) m d) A) (hB : B ≤ W.heap.size) (t : List UInt8) (hl : A.length ≤ 900000) :
    ∃ g' d' W', (Builtin.append_ #[30, 30] 30 #[.slice (some ⟨gN, 0, none⟩) m d, .slice (some ⟨W.heap.size, 0, none⟩) 1 1]).run Tryd.prog (W.alloc (.cells #[txt t] 9)) = .ok (.slice (some ⟨g', 0, none⟩) (m + 1) d') W' ∧ Own B W' (.slice (some ⟨g', 0, none⟩) (m + 1) d') (A ++ [t]) ∧ Below B W W' := by
  obtain ⟨v', W', h1, h2, h3⟩ := h.push hB t (by omega)
  have hm : m = A.length := by
    rcases h.2 with ⟨e, _⟩ | ⟨g', cap, cur, e, _⟩
    · cases e
    · injection e
  rcases h2.2 with ⟨_, e⟩ | ⟨g', cap, cur, rfl, _⟩
  · simp at e
  · have e : (A ++ [t]).length = m + 1 := by simp [hm]
    rw [e] at h1 h2
    exact ⟨g', cap, W', h1, h2, h3⟩
theorem names_len (l : Its E8) : (namesL l).length = l.length := by simp [namesL]
theorem names_app (a b : Its E8) : namesL (a ++ b) = namesL a ++ namesL b := by simp [namesL]
theorem names_takeV {l : Its E8} {i : Nat} (h : i < l.length) : namesL (l.take (i + 1)) = namesL (l.take i) ++ [l[i].1] := by
  rw [List.take_succ_eq_append_getElem h, names_app]; rfl
theorem flat_takeV {l : Tb E8} {i : Nat} (h : i < l.length) : namesL (l.take (i + 1)).flatten = namesL (l.take i).flatten ++ namesL l[i] := by
  rw [List.take_succ_eq_append_getElem h, List.flatten_append, names_app]; simp
/-- the names so far -/
def upTo (T : TM E8) : Nat → Row
  | 0 => []
  | 1 => namesL T.el.flatten
  | _ => namesL T.el.flatten ++ namesL T.nw.flatten
theorem flat_part {l : Tb E8} (i : Nat) : (l.take i).flatten.length ≤ l.flatten.length := by
  have : l.flatten = (l.take i).flatten ++ (l.drop i).flatten := by rw [← List.flatten_append, List.take_append_drop]
  rw [this, List.length_append]
  omega
theorem part_room {l : Tb E8} (i : Nat) (hi : i < l.length) (q : Nat) : (l.take i).flatten.length + (l[i].take q).length ≤ l.flatten.length := by
  have h1 := flat_part (l := l) (i + 1)
  rw [List.take_succ_eq_append_getElem hi, List.flatten_append, List.length_append] at h1
  simp at h1 ⊢
  omega
theorem make_row (w : World) (B c : Nat) (hB : B ≤ w.heap.size) (hc : c ≤ 1000000) : ∃ w', (Instr.makeSlice 30 (.int .i64 0) (.int .i64 (c : Int))).run Tryd.prog w = .ok (.slice (some ⟨w.heap.size, 0, none⟩) 0 c) w' ∧ Own B w' (.slice (some ⟨w.heap.size, 0, none⟩) 0 c) [] ∧ Below B w w' := by
  obtain ⟨i0, hi, hz0, hz1, hz2⟩ := info_parts infoS
  obtain ⟨w', h1, h2, h3⟩ := run_make_own (P := Tryd.prog) w B 30 9 i0 (.string ⟨#[]⟩) 1 Tryd.underlying30 hi hz0 hz1 .i64 .i64 c (by rw [hz2]; omega) (by unfold maxLen; omega) hB
  exact ⟨w', h1, h2, (Below.refl B w).grown h3 hB (fun k hk => by cases hk)⟩
theorem pick0 (a b : Option Addr) (n c m d : Nat) : ∀ w, (Instr.index 80 (.agg #[.slice a n c, .slice b m d]) (.int .i64 (0 : Nat))).run Tryd.prog w = .ok (.slice a n c) w := by
  intro w
  kernel_rfl
theorem pick1 (a b : Option Addr) (n c m d : Nat) : ∀ w, (Instr.index 80 (.agg #[.slice a n c, .slice b m d]) (.int .i64 (1 : Nat))).run Tryd.prog w = .ok (.slice b m d) w := by
  intro w
  kernel_rfl
set_option maxHeartbeats 4000000 in
set_option maxRecDepth 100000 in
/-- Names, ahead of the sort and behind it -/
theorem names_run {B : Nat} {w : World} {g : Tg} {b nb : Nat} {ev : Value} {T : TM E8} {many : Nat} (h : Lies B w g b nb ev T many) (hF : Fit T) (hm : many = T.el.flatten.length + T.nw.flatten.length) (hml : many ≤ 100000) :
    Calls Tryd.prog 25 #[.pointer (some ⟨b, 0, none⟩)] w fun e w' => ∃ q c, e = .returned (.slice (some q) many c) ∧ Hid (Own w.heap.size w' (.slice (some q) many c) (srtR (upTo T 2)) ∧ Below w.heap.size w w') := by
  obtain ⟨w1, hmk, hO1, hB1⟩ := make_row w w.heap.size many (Nat.le_refl _) (by omega)
  obtain ⟨_, _, _, c3⟩ := h.cells
  obtain ⟨d0, d1, _, _⟩ := (h.below hB1).cells
  obtain ⟨p, c, rfl, hE⟩ := h.el.tabV
  have HE := hid hE
  have HN := hid h.nw.tabV
  have HO1 := hid hO1
  have HB1 := hid hB1
  have HF := hid hF
  have HM := hid hm
  have hnN := hF.nN
  have heN := hF.eN
  have hmz : (many : Int) ≤ 100000 := by omega
  clear h hF hO1 hB1 hE hm
  go_enter Tryd.func25, Tryd.ntmps25
  go_wp2_with fail
  go_region
  go_wp2_with fail
  go_loopw [3, 24] (fun v3 v24 W => ∃ (j m gN d : Nat) (A : Row), v24 = .int .i64 j ∧ v3 = .slice (some ⟨gN, 0, none⟩) m d ∧ j ≤ 2 ∧ Hid (A = upTo T j) ∧ Hid (m = A.length) ∧ Hid (Own w.heap.size W (.slice (some ⟨gN, 0, none⟩) m d) A) ∧ Hid (Below w.heap.size w W)) (fun _ v24 _ => 2 - (intOf v24).toNat)
  case atStart => exact ⟨0, 0, w.heap.size, many, [], rfl, rfl, by omega, rfl, rfl, HO1.out, HB1.out.drew⟩
  case round =>
    obtain ⟨j, m, gN, d, A, rfl, rfl, hj, HA, Hm, HO, HW⟩ := hrel
    by_cases hlt : j < 2
    · have hlz : (j : Int) < 2 := by omega
      obtain ⟨P2, C2, L, hpick, hTV, hup, hLN, hLc⟩ : ∃ (P2 : Option Addr) (C2 : Nat) (L : Tb E8), (∀ w, (Instr.index 80 (.agg #[.slice p T.el.length c, .slice (some ⟨nb, 0, none⟩) T.nw.length T.nw.length]) (.int .i64 j)).run Tryd.prog w = .ok (.slice P2 L.length C2) w) ∧ TabV w P2 L ∧ upTo T (j + 1) = upTo T j ++ namesL L.flatten ∧ L.length ≤ 1000000 ∧ (upTo T j).length + L.flatten.length ≤ 100000 := by
        have hM := HM.out
        rcases (show j = 0 ∨ j = 1 by omega) with rfl | rfl
        · exact ⟨p, c, T.el, pick0 _ _ _ _ _ _, HE.out, by simp [upTo], heN, by simp only [upTo, List.length_nil]; omega⟩
        · exact ⟨_, _, T.nw, pick1 _ _ _ _ _ _, HN.out, by simp [upTo], hnN, by simp only [upTo, names_len]; omega⟩
      have HTV := hid hTV
      have HUp := hid hup
      have HLc := hid hLc
      have hLz : (L.length : Int) ≤ 1000000 := by omega
      clear hTV hup hLc hLN hnN heN hj hlt
      go_wp2_with fail
      go_loopw [3, 29] (fun v3 v29 W => ∃ (r m gN d : Nat) (A : Row), v29 = .int .i64 r ∧ v3 = .slice (some ⟨gN, 0, none⟩) m d ∧ r ≤ L.length ∧ Hid (A = upTo T j ++ namesL (L.take r).flatten) ∧ Hid (m = A.length) ∧ Hid (Own w.heap.size W (.slice (some ⟨gN, 0, none⟩) m d) A) ∧ Hid (Below w.heap.size w W)) (fun _ v29 _ => L.length - (intOf v29).toNat)
      case atStart => exact ⟨0, m, gN, d, A, rfl, rfl, Nat.zero_le _, by unfold Hid; rw [HA.out]; simp [namesL], Hm, HO.out, HW.out⟩
      case round =>
        obtain ⟨r, m, gN, d, A, rfl, rfl, hr, HA, Hm, HO, HW⟩ := hrel
        by_cases hrl : r < L.length
        · have hrz : (r : Int) < (L.length : Int) := by omega
          obtain ⟨tb, u, rfl, htb, hu, hR⟩ := HTV.out r hrl
          obtain ⟨pu, cu, rfl⟩ := hR.shape
          have x0 := cell_turn hu (HW.out.block tb htb)
          have HR := hid hR
          have HFl := hid (flat_takeV hrl)
          have HPr := hid (fun q => part_room (l := L) r hrl q)
          have hRl : L[r].length ≤ 100000 := by have := part_room (l := L) r hrl L[r].length; have := HLc.out; simp at *; omega
          have hRz : (L[r].length : Int) ≤ 100000 := by omega
          clear hu hR htb
          go_wp2_with fail
          go_loopw [3, 35] (fun v3 v35 W => ∃ (q m gN d : Nat) (A : Row), v35 = .int .i64 q ∧ v3 = .slice (some ⟨gN, 0, none⟩) m d ∧ q ≤ L[r].length ∧ Hid (A = upTo T j ++ namesL (L.take r).flatten ++ namesL (L[r].take q)) ∧ Hid (m = A.length) ∧ Hid (Own w.heap.size W (.slice (some ⟨gN, 0, none⟩) m d) A) ∧ Hid (Below w.heap.size w W)) (fun _ v35 _ => L[r].length - (intOf v35).toNat)
          case atStart => exact ⟨0, m, gN, d, A, rfl, rfl, Nat.zero_le _, by unfold Hid; rw [HA.out]; simp [namesL], Hm, HO.out, HW.out⟩
          case round =>
            obtain ⟨q, m, gN, d, A, rfl, rfl, hq, HA, Hm, HO, HW⟩ := hrel
            by_cases hql : q < L[r].length
            · have hqz : (q : Int) < (L[r].length : Int) := by omega
              obtain ⟨gr, rfl, hcl⟩ := HR.out.cells q hql
              have hgr := HW.out.block gr (HR.out.lt rfl)
              obtain ⟨y0, y1, y2, y3, y4, y5, y6, y7, y8⟩ := hcl q hql
              replace y0 := cell_turn y0 hgr
              replace y1 := cell_turn y1 hgr
              replace y2 := cell_turn y2 hgr
              replace y3 := cell_turn y3 hgr
              replace y4 := cell_turn y4 hgr
              replace y5 := cell_turn y5 hgr
              replace y6 := cell_turn y6 hgr
              replace y7 := cell_turn y7 hgr
              replace y8 := cell_turn y8 hgr
              have HNx := hid (names_takeV hql)
              have hmz2 : m ≤ 900000 := by
                have h1 := HPr.out q
                have h2 := HLc.out
                rw [Hm.out, HA.out]
                simp only [List.length_append, names_len]
                omega
              generalize L[r][q] = x at *
              obtain ⟨n, v⟩ := x
              simp only at y0 y1 y2 y3 y4 y5 y6 y7 y8 HNx
              have hba := below_alloc wr (.cells #[txt n, txt v.key, .int .i64 v.m.kind, txt v.m.text, .slice v.pp v.m.pairs.length v.pc, .slice v.ip v.m.items.length v.ic, .int .i64 v.m.px, .int .i64 v.m.py, .int .i64 v.ends] 73)
              have hws := Nat.le_trans HW.out.size hba.size
              obtain ⟨g', d', W', hrun, hO', hB'⟩ := pushS (owns_below HO.out hba) hws n (by rw [← Hm.out]; exact hmz2)
              have hsz1 : (wr.alloc (.cells #[txt n, txt v.key, .int .i64 v.m.kind, txt v.m.text, .slice v.pp v.m.pairs.length v.pc, .slice v.ip v.m.items.length v.ic, .int .i64 v.m.px, .int .i64 v.m.py, .int .i64 v.ends] 73)).heap.size = wr.heap.size + 1 := by simp
              rw [hsz1] at hrun
              have HRun := hid hrun
              have HO' := hid hO'
              have HW' := hid ((HW.out.trans (hba.mono HW.out.size)).trans hB')
              clear hcl hgr hba hws hrun hO' hB' hsz1
              go_wp2_with (refine wpList_append_runs rfl _ _ 30 30 rfl _ _ _ _ rfl rfl HRun.out (Hid.out ?_))
              refine hid ?_
              go_wp2_with fail
              exact ⟨⟨q + 1, m + 1, g', d', A ++ [n], by go_num, rfl, by omega, by unfold Hid; rw [HNx.out, HA.out]; simp, by unfold Hid; rw [Hm.out]; simp, HO'.out, HW'.out⟩, by simp [intOf]; omega⟩
            · obtain rfl : q = L[r].length := by omega
              rw [List.take_length] at HA
              go_wp2_with fail
              exact ⟨⟨r + 1, m, gN, d, A, by go_num, rfl, by omega, by unfold Hid; rw [HFl.out, HA.out]; simp, Hm, HO.out, HW.out⟩, by simp [intOf]; omega⟩
        · obtain rfl : r = L.length := by omega
          rw [List.take_length] at HA
          go_wp2_with fail
          exact ⟨⟨j + 1, m, gN, d, A, by go_num, rfl, by omega, by unfold Hid; rw [HUp.out, HA.out], Hm, HO.out, HW.out⟩, by simp [intOf]; omega⟩
    · obtain rfl : j = 2 := by omega
      have hmm : m = many := by rw [Hm.out, HA.out, HM.out]; simp only [upTo, List.length_append, names_len]
      have HSo := hid (sort_any HO.out HW.out.size (by rw [← Hm.out, hmm]; omega) Hm.out)
      rw [HA.out] at HSo
      subst hmm
      go_wp2_with fail
      refine HSo.out.mono ?_; rintro e w9 ⟨rfl, hh⟩
      go_wp2_with fail
      go_ret
      exact ⟨⟨gN, 0, none⟩, d, rfl, hh.out.1, HW.out.trans hh.out.2⟩

end Go.Proofs.YtppgifaegnmciaaDoor.Dc.DE

namespace Go.Proofs.YtppgifaegnmciaaDoor.Dc.DE
open Go.RowKit

/-- a dict in block b, its blocks O -/
def Dq (B : Nat) (w : World) (b : Nat) (O : Nat → Prop) (D : DM E8) : Prop :=
  ∃ g nb ev T, (∀ k, O k ↔ g k ≠ none) ∧ Lies B w g b nb ev T D.L.length ∧ Good sumN T D ∧ Env B w ∧ ∀ x ∈ D.L, x.1.length ≤ 140737488351232
theorem dq_turn {B : Nat} {w w' : World} {b : Nat} {O : Nat → Prop} {D : DM E8} (h : Dq B w b O D) (hk : ∀ k, k < B ∨ O k → w'.heap[k]? = w.heap[k]?) (hs : w.heap.size ≤ w'.heap.size) : Dq B w' b O D := by
  obtain ⟨g, nb, ev, T, hO, hL, hG, hE, hn⟩ := h
  exact ⟨g, nb, ev, T, hO, hL.turn (fun k e => hk k (.inr ((hO k).2 e))) hs, hG, hE.turn (fun k e => hk k (.inl e)) hs, hn⟩
theorem dq_base {B : Nat} {w : World} {b : Nat} {O : Nat → Prop} {D : DM E8} (h : Dq B w b O D) : B ≤ w.heap.size := by
  obtain ⟨g, nb, ev, T, hO, hL, hG, hE, hn⟩ := h
  exact hE.size
theorem dq_lt {B : Nat} {w : World} {b : Nat} {O : Nat → Prop} {D : DM E8} (h : Dq B w b O D) : ∀ k, O k → k < w.heap.size := by
  obtain ⟨g, nb, ev, T, hO, hL, hG, hE, hn⟩ := h
  exact fun k hk => (hL.lt k ((hO k).1 hk)).1
theorem dq_srt {B : Nat} {w : World} {b : Nat} {O : Nat → Prop} {D : DM E8} (h : Dq B w b O D) : Srt D.L := by
  obtain ⟨g, nb, ev, T, hO, hL, hG, hE, hn⟩ := h
  exact hG.srt
theorem dq_nms {B : Nat} {w : World} {b : Nat} {O : Nat → Prop} {D : DM E8} (h : Dq B w b O D) : ∀ x ∈ D.L, x.1.length ≤ 140737488351232 := by
  obtain ⟨g, nb, ev, T, hO, hL, hG, hE, hn⟩ := h
  exact hn
/-- behind a call -/
theorem Half.dq {B : Nat} {w w0 : World} {b : Nat} {g g0 : Tg} {nb : Nat} {ev : Value} {D : DM E8} {T : TM E8} (h : Half B w b g g0 w0 nb ev D T) (hn : ∀ x ∈ D.L, x.1.length ≤ 140737488351232) (O : Nat → Prop) (hO : ∀ k, O k ↔ g0 k ≠ none) : ∃ O', Dq B w b O' D ∧ Grew w0 O O' ∧ Keep (Off O) w0 w :=
  ⟨fun k => g k ≠ none, ⟨g, nb, ev, T, fun _ => Iff.rfl, h.lies, h.good, h.env, hn⟩, fun k hk => (h.turn.new k hk).imp (fun e => (hO k).2 e) id, h.turn.keep.mono (fun k hk => by
    cases e : g0 k with
    | none => rfl
    | some t => exact absurd ((hO k).2 (by rw [e]; simp)) hk)⟩
theorem dq_new {B : Nat} (hB0 : 0 < B) (w : World) (hV : Tab w) (hB : B ≤ w.heap.size) : Calls Tryd.prog 12 #[] w fun e w' => ∃ b, e = .returned (ptr b) ∧ Hid (∃ O, Dq B w' b O newD ∧ (∀ k, O k → w.heap.size ≤ k) ∧ Below w.heap.size w w') := by
  refine (new_any w).mono fun e w' ⟨he, hw⟩ => ⟨w.heap.size + 1, he, ?_⟩
  have hw : w' = _ := hw
  have hb : Below w.heap.size w w' := by
    rw [hw]
    exact (below_alloc w _).alloc (by simp) _
  have hE : Env B w' := (Env.mk hV hB0 hB).below hb hB
  refine ⟨fun k => newT w.heap.size k ≠ none, ⟨newT w.heap.size, w.heap.size, .slice none 0 0, ⟨List.replicate 4 [], [], 0⟩, fun _ => Iff.rfl, ?_, Good.new sumN, hE, fun x hx => by cases hx⟩, fun k hk => ?_, hb⟩
  · rw [hw]
    exact new_lies B w hB
  · have hk : newT w.heap.size k ≠ none := hk
    unfold newT at hk
    split at hk
    · omega
    · split at hk
      · omega
      · exact absurd rfl hk
theorem dq_put {B : Nat} (b : Nat) (O : Nat → Prop) (D : DM E8) (n : Nm) (v : E8) (w : World) (h : Dq B w b O D) (hS : Small 100000 D) (hn : n.length ≤ 140737488351232) :
    Calls Tryd.prog 19 #[ptr b, txt n, .agg v.cells] w fun e w' => e = .returned (.bool (hasL n D.L)) ∧ Hid (∃ O', Dq B w' b O' (putD D n v) ∧ Grew w O O' ∧ Keep (Off O) w w') := by
  obtain ⟨g, nb, ev, T, hO, hL, hG, hE, hnm⟩ := h
  refine (put_any ⟨hL, hG, hE, Turn.refl g w⟩ hS hnm n v hn).mono fun e w' ⟨he, hh⟩ => ⟨he, ?_⟩
  obtain ⟨g', nb', ev', T', hH⟩ := hh.out
  refine hH.dq (fun x hx => ?_) O hO
  rw [putD_L] at hx
  rcases (put1_mem n v D.L x).1 hx with rfl | ⟨hx, _⟩
  · exact hn
  · exact hnm x hx
theorem dq_get {B : Nat} (b : Nat) (O : Nat → Prop) (D : DM E8) (n : Nm) (w : World) (h : Dq B w b O D) (hS : Small 100000 D) (hn : n.length ≤ 140737488351232) :
    Calls Tryd.prog 18 #[ptr b, txt n] w fun e w' => e = .returned (.tuple #[.agg ((getL n D.L).getD e80).cells, .bool (getL n D.L).isSome]) ∧ Hid (Below w.heap.size w w') := by
  obtain ⟨g, nb, ev, T, hO, hL, hG, hE, hnm⟩ := h
  exact get_any hL hG hE hS n hn
theorem dq_len {B : Nat} (b : Nat) (O : Nat → Prop) (D : DM E8) (w : World) (h : Dq B w b O D) :
    Calls Tryd.prog 23 #[ptr b] w fun e w' => e = .returned (.int .i64 D.L.length) ∧ Hid (Below w.heap.size w w') := by
  obtain ⟨g, nb, ev, T, hO, hL, hG, hE, hnm⟩ := h
  exact (len_any hL).mono fun e w' ⟨he, hw⟩ => ⟨he, by subst hw; exact Below.refl _ _⟩
theorem dq_names {B : Nat} (b : Nat) (O : Nat → Prop) (D : DM E8) (w : World) (h : Dq B w b O D) (hS : Small 100000 D) :
    Calls Tryd.prog 25 #[ptr b] w fun e w' => ∃ q c, e = .returned (.slice q D.L.length c) ∧ Hid (Tl (fun k => w.heap.size ≤ k) w' (.slice q D.L.length c) (namesL D.L) ∧ Below w.heap.size w w') := by
  obtain ⟨g, nb, ev, T, hO, hL, hG, hE, hnm⟩ := h
  refine (names_run hL (Fit.of hG hS) hG.count.symm hS.len).mono fun e w' ⟨q, c, he, hh⟩ => ⟨some q, c, he, ?_⟩
  have hsr : srtR (upTo T 2) = namesL D.L := by
    refine srtR_eq ?_ ?_
    · have := hG.perm.map (·.1)
      unfold allT at this
      rw [List.map_append] at this
      exact this
    · exact List.pairwise_map.2 hG.srt
  have h1 := hh.out
  rw [hsr] at h1
  exact ⟨h1.1.tl (fun k hk => hk), h1.2⟩

end Go.Proofs.YtppgifaegnmciaaDoor.Dc.DE

namespace Go.Proofs.YtppgifaegnmciaaDoor.Dc.DE
open Go.RowKit

/-- a name is taken out -/
theorem Half.del {B : Nat} {w w' : World} {b : Nat} {g g0 : Tg} {w0 : World} {nb : Nat} {ev : Value} {D : DM E8} {T : TM E8} (h : Half B w b g g0 w0 nb ev D T) {n : Nm} {e : Bool} {tb : Nat} {l : Tb E8} {i k : Nat} (s : Spot w g nb ev T n e tb l i k) (v0 : E8) (gr c m : Nat) (hu : w.cell? ⟨tb, i, none⟩ = some (.slice (some ⟨gr, 0, none⟩) (l[i]'s.hi).length c))
    (he : l[i]'s.hi = (l[i]'s.hi).take k ++ (n, v0) :: (l[i]'s.hi).drop (k + 1)) (hR : Room w' (.slice (some ⟨gr, 0, none⟩) m c) ((l[i]'s.hi).take k ++ (l[i]'s.hi).drop (k + 1))) (hos : w'.os = w.os) (htp : w'.tape = w.tape) (hou : w'.output = w.output) (hsz : w'.heap.size = w.heap.size) (ho : ∀ j, j ≠ gr → w'.heap[j]? = w.heap[j]?) :
    ∃ g' T', Lies B (w'.setCell ⟨tb, i, none⟩ (.slice (some ⟨gr, 0, none⟩) m c)) g' b nb ev T' D.L.length ∧ T'.nw.length = T.nw.length ∧ Half B ((w'.setCell ⟨tb, i, none⟩ (.slice (some ⟨gr, 0, none⟩) m c)).setCell ⟨b, 3, none⟩ (.int .i64 ((D.L.length : Int) - 1))) b g' g0 w0 nb ev ⟨delL n D.L, D.rooms, D.left⟩ T' := by
  obtain ⟨g', ht, hup⟩ := s.tab.stored (fun j hj => (h.lies.lt j hj).1) i s.hi _ (.slice (some ⟨gr, 0, none⟩) m c) _ hu hR hos htp hou (by omega) (fun j _ hj => ho j (fun e => hj (by rw [e]; rfl))) (fun j hj => .inl hj)
  have hL := s.turned h.lies h.env.size _ ht hup
  have hG := s.good_del h.good he
  have hhas : hasL n D.L = true := by
    rcases s.is with ⟨_, _, rfl⟩ | ⟨_, _, rfl, _⟩
    · exact (h.good.foundN s.hi he).2.1
    · exact (h.good.foundE s.hi he).2.1
  have ho2 : ∀ j, j ≠ b → ((w'.setCell ⟨tb, i, none⟩ (.slice (some ⟨gr, 0, none⟩) m c)).setCell ⟨b, 3, none⟩ (.int .i64 ((D.L.length : Int) - 1))).heap[j]? = (w'.setCell ⟨tb, i, none⟩ (.slice (some ⟨gr, 0, none⟩) m c)).heap[j]? := fun j hj => heap_setCell_other _ _ _ _ hj
  have hT := Turn.head (g := g') (w' := (w'.setCell ⟨tb, i, none⟩ (.slice (some ⟨gr, 0, none⟩) m c)).setCell ⟨b, 3, none⟩ (.int .i64 ((D.L.length : Int) - 1))) (b := b) (by rw [hL.tag]; simp) ho2 (by simp) rfl rfl rfl
  refine ⟨g', _, hL, by cases e <;> simp, hL.rehead ?_ ho2 (by simp) rfl hL.el, hG, hT.env (hup.turn.env h.env h.lies.lt) hL.lt, (h.turn.trans hup.turn).trans hT⟩
  have h1 := heap_setCell_same _ b 3 _ _ (.int .i64 ((D.L.length : Int) - 1)) hL.head
  have h2 : ((delL n D.L).length : Int) = (D.L.length : Int) - 1 := by have := (put_len_has h.good.srt hhas e80).2; omega
  simpa [headC, h2] using h1
end Go.Proofs.YtppgifaegnmciaaDoor.Dc.DE

namespace Go.Proofs.YtppgifaegnmciaaDoor.Dc.DE
open Go.RowKit

theorem run_copy2 {P : Program} (w : World) (dT sT ty elem : TypeId) (g o dLen dCap : Nat) (a : Addr) (sLen sCap : Nat) (cur : Array Value) (t : TypeId) (cs : List Value)
    (hu : P.underlying dT = some (.slice elem)) (hs : (P.info? elem).map (·.size) = some 9)
    (hg : w.heap[g]? = some (.cells cur t (0, 0))) (hn : cs.length = Nat.min sLen dLen * 9)
    (hsrc : ∀ j v, cs[j]? = some v → w.cell? (a.add j) = some v) (hfit : o + cs.length ≤ cur.size) (h1 : ∀ v ∈ cs, v.oneCell' = true) :
    (Builtin.copy_ #[dT, sT] ty #[.slice (some ⟨g, o, none⟩) dLen dCap, .slice (some a) sLen sCap]).run P w =
      .ok (goInt (Nat.min sLen dLen)) (w.setRow g (cur.toList.take o ++ cs ++ cur.toList.drop (o + cs.length)).toArray) := by
  have hl := run_loadCells_list (P := P) w a cs hsrc
  have hst := run_storeCells_at P g o t cs 0 cur w hg (by simpa using hfit) h1
  cases hq : P.info? elem with
  | none => simp [hq] at hs
  | some i =>
    have hi : i.size = 9 := by simpa [hq] using hs
    simp [Builtin.copy_, run_underlying hu, Builtin.lenOf, Builtin.firstCells, sizeOf, typeInfo, hq, hi, ← hn, hl, hst]
theorem sizeP : (Tryd.prog.info? 73).map (·.size) = some 9 := by kernel_rfl
set_option maxRecDepth 100000 in
/-- a room is copied into a block of its size -/
theorem copy_room {w : World} {p : Option Addr} {n c k : Nat} {l : Its E8} (h : Room w (.slice p n c) l) (hn : n = l.length) (Z : Array Value) (hk : w.heap[k]? = some (.cells Z 73 (0, 0))) (hZ : Z.size = l.length * 9) :
    (Builtin.copy_ #[74, 74] 3 #[.slice (some ⟨k, 0, none⟩) n n, .slice p n c]).run Tryd.prog w = .ok (.int .i64 n) (w.setRow k (flat l).toArray) := by
  subst hn
  rcases h.2 with ⟨e, h0⟩ | ⟨g, cap, cur, e, _, hg, hn, hm, hs, ht⟩
  · injection e with e1 e2 e3
    obtain rfl : l = [] := List.eq_nil_of_length_eq_zero h0
    subst e1 e3
    have hz : Z = #[] := Array.eq_empty_of_size_eq_zero (by simpa using hZ)
    rw [hz] at hk
    rw [show (flat []).toArray = #[] from rfl, setRow_self w k #[] _ _ hk]
    exact run_copy_nil (P := Tryd.prog) w 74 74 3 73 ⟨k, 0, none⟩ 0 0 Tryd.underlying74 (by rw [sizeP]; rfl)
  · injection e with e1 e2 e3
    subst e1
    have := run_copy2 (P := Tryd.prog) w 74 74 3 73 k 0 l.length l.length ⟨g, 0, none⟩ l.length c Z 73 (flat l) Tryd.underlying74 sizeP hk (by rw [flat_len]; show _ = min _ _ * 9; rw [Nat.min_self]) (World.ownsRow.cells h (g := g) rfl) (by rw [flat_len, hZ]; omega) (flat_one l)
    rw [this]
    have e : Nat.min l.length l.length = l.length := Nat.min_self _
    rw [e, List.take_zero, List.nil_append, flat_len, Nat.zero_add, List.drop_of_length_le (by simp; omega), List.append_nil]
    rfl
theorem made_flat (n : Nat) : (madeCells (Value.agg #[.string ⟨#[]⟩, .string ⟨#[]⟩, .int .i64 0, .string ⟨#[]⟩, .slice none 0 0, .slice none 0 0, .int .i64 0, .int .i64 0, .int .i64 0]).cells (n * 9)).toList = flat (List.replicate n ([], e80)) := by
  apply List.ext_getElem?
  intro j
  by_cases hj : j < n * 9
  · have hz : (Value.agg #[.string ⟨#[]⟩, .string ⟨#[]⟩, .int .i64 0, .string ⟨#[]⟩, .slice none 0 0, .slice none 0 0, .int .i64 0, .int .i64 0, .int .i64 0]).cells = #[.string ⟨#[]⟩, .string ⟨#[]⟩, .int .i64 0, .string ⟨#[]⟩, .slice none 0 0, .slice none 0 0, .int .i64 0, .int .i64 0, .int .i64 0] := rfl
    have hq : j / 9 < (List.replicate n (([], e80) : Nm × E8)).length := by simp; omega
    obtain ⟨f1, f2⟩ := flat_get (List.replicate n ([], e80)) (j / 9) hq
    simp only [List.getElem_replicate] at f1 f2
    rw [hz, madeCells]
    rcases (show j = j / 9 * 9 ∨ ∃ i, i < 8 ∧ j = j / 9 * 9 + 1 + i ∧ j % 9 = 1 + i from by
      by_cases h0 : j % 9 = 0
      · exact .inl (by omega)
      · exact .inr ⟨j % 9 - 1, by omega, by omega, by omega⟩) with e | ⟨i, hi, e, hr⟩
    · rw [← e] at f1
      rw [f1]
      simp [hj, show j % 9 = 0 by omega]
    · have := f2 i hi
      rw [← e] at this
      rw [this]
      rcases (show i = 0 ∨ i = 1 ∨ i = 2 ∨ i = 3 ∨ i = 4 ∨ i = 5 ∨ i = 6 ∨ i = 7 by omega) with rfl | rfl | rfl | rfl | rfl | rfl | rfl | rfl <;> simp [hj, hr, e80]
  · rw [List.getElem?_eq_none (by simp [madeCells]; omega), List.getElem?_eq_none (by rw [flat_len]; simp; omega)]
/-- a room of zero values is made -/
theorem make_room (n : Nat) (hn : n ≤ 1000000) (w : World) : ∃ Z : Array Value, (Instr.makeSlice 74 (.int .i64 n) (.int .i64 n)).run Tryd.prog w = .ok (.slice (some ⟨w.heap.size, 0, none⟩) n n) (w.alloc (.cells Z 73)) ∧ Z.size = n * 9 ∧ Room (w.alloc (.cells Z 73)) (.slice (some ⟨w.heap.size, 0, none⟩) n n) (List.replicate n ([], e80)) := by
  obtain ⟨i0, hi, hz0, hz1, hz2⟩ := info_parts infoP
  have h := run_make (P := Tryd.prog) w 74 73 i0 (.agg #[.string ⟨#[]⟩, .string ⟨#[]⟩, .int .i64 0, .string ⟨#[]⟩, .slice none 0 0, .slice none 0 0, .int .i64 0, .int .i64 0, .int .i64 0]) Tryd.underlying74 hi hz0 .i64 .i64 (n : Int) (n : Int) (by omega) (Int.le_refl _) (by rw [hz2]; omega) (by omega)
  rw [hz1, Int.toNat_natCast] at h
  refine ⟨_, h, size_madeCells _ _, ⟨by rw [flat_len], .inr ⟨w.heap.size, n, _, by simp, Nat.zero_le _, heap_alloc_new w _, by simp, by unfold maxLen; omega, size_madeCells _ _, ?_⟩⟩⟩
  rw [List.length_replicate, made_flat, List.take_of_length_le (by rw [flat_len]; simp)]
theorem part_set {l : Tb E8} {i : Nat} (hi : i < l.length) : (l.take i ++ List.replicate (l.length - i) []).set i l[i] = l.take (i + 1) ++ List.replicate (l.length - (i + 1)) [] := by
  have h1 : (l.take i).length = i := by rw [List.length_take]; omega
  obtain ⟨k, hk⟩ : ∃ k, l.length - i = k + 1 := ⟨l.length - i - 1, by omega⟩
  rw [List.set_append_right _ _ (by omega), h1, Nat.sub_self, hk, List.replicate_succ, List.set_cons_zero, List.take_succ_eq_append_getElem hi, show l.length - (i + 1) = k by omega, List.append_assoc]
  rfl
theorem part_len {l : Tb E8} {i : Nat} (hi : i ≤ l.length) : (l.take i ++ List.replicate (l.length - i) []).length = l.length := by
  rw [List.length_append, List.length_take, List.length_replicate]; omega
/-- a table of new blocks alone -/
structure Fresh (m : Nat) (w : World) (g : Tg) (e : Bool) (cb : Nat) (l : Tb E8) : Prop where
  tab : TabIs w g e cb l
  lt : ∀ k, g k ≠ none → m ≤ k ∧ k < w.heap.size
/-- two sets of blocks, and one more -/
def Tg.join (g1 g2 : Tg) (m : Nat) : Tg := fun k => if k = m then some .dict else match g1 k with
  | some t => some t
  | none => g2 k
/-- what was cloned is a dict -/
theorem cloned {B : Nat} {w w' : World} {g1 g2 : Tg} {cb : Nat} {ev : Value} {T : TM E8} {many : Nat} {m : Nat} (h1 : TabIs w g1 false cb T.nw) (h2 : ElIs w g2 ev T.el) (l1 : ∀ k, g1 k ≠ none → m ≤ k ∧ k < w.heap.size) (l2 : ∀ k, g2 k ≠ none → m ≤ k ∧ k < w.heap.size) (hd : ∀ k, g1 k ≠ none → g2 k = none) (hB : B ≤ m)
    (hw : w' = w.alloc (.cells (headC cb ev T many) 63)) : Lies B w' (Tg.join g1 g2 w.heap.size) w.heap.size cb ev T many ∧ ∀ k, Tg.join g1 g2 w.heap.size k ≠ none → m ≤ k ∨ k = w.heap.size := by
  subst hw
  have e1 : ∀ k t, g1 k = some t → Tg.join g1 g2 w.heap.size k = some t ∧ (w.alloc (.cells (headC cb ev T many) 63)).heap[k]? = w.heap[k]? := fun k t e => by
    have := (l1 k (by rw [e]; simp)).2
    exact ⟨by unfold Tg.join; rw [if_neg (by omega), e], heap_alloc_old _ _ this⟩
  have e2 : ∀ k t, g2 k = some t → Tg.join g1 g2 w.heap.size k = some t ∧ (w.alloc (.cells (headC cb ev T many) 63)).heap[k]? = w.heap[k]? := fun k t e => by
    have := (l2 k (by rw [e]; simp)).2
    have h0 : g1 k = none := by
      cases h : g1 k with
      | none => rfl
      | some t => have := hd k (by rw [h]; simp); rw [e] at this; cases this
    exact ⟨by unfold Tg.join; rw [if_neg (by omega), h0]; exact e, heap_alloc_old _ _ this⟩
  have e3 : ∀ k, Tg.join g1 g2 w.heap.size k ≠ none → k = w.heap.size ∨ g1 k ≠ none ∨ g2 k ≠ none := fun k hk => by
    unfold Tg.join at hk
    split at hk
    · exact .inl ‹_›
    · cases h : g1 k with
      | none => rw [h] at hk; exact .inr (.inr hk)
      | some t => exact .inr (.inl (by simp))
  refine ⟨⟨heap_alloc_new w _, if_pos rfl, h1.turn (fun k => e1 k _) (fun k i => e1 k _), h2.turn (fun k => e2 k _) (fun k i => e2 k _), fun k hk => ?_⟩, fun k hk => ?_⟩
  · have hcb := (l1 cb (by obtain ⟨_, _, _, t, _⟩ := h1; rw [t]; simp))
    rcases e3 k hk with rfl | h | h
    · simp; omega
    · have := l1 k h; simp; omega
    · have := l2 k h; simp; omega
  · rcases e3 k hk with h | h | h
    · exact .inr h
    · exact .inl (l1 k h).1
    · exact .inl (l2 k h).1

end Go.Proofs.YtppgifaegnmciaaDoor.Dc.DE

namespace Go.Proofs.YtppgifaegnmciaaDoor.Dc.DE
open Go.RowKit

end Go.Proofs.YtppgifaegnmciaaDoor.Dc.DE
