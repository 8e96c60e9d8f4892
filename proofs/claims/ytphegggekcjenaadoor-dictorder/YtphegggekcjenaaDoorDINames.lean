/- The program's dict: Names. -/
import Derived.Test.YtphegggekcjenaaDoorDIHalf
import Derived.Test.YtphegggekcjenaaDoorSorted
import Derived.Test.YtphegggekcjenaaDoorRefNames
namespace Go.Proofs.YtphegggekcjenaaDoor.DI
open Go.RowKit

/-- a table that may be read -/
def TabV (w : World) (p : Option Addr) (l : Tb Int) : Prop := ∀ r (h : r < l.length), ∃ nb u, p = some ⟨nb, 0, none⟩ ∧ nb < w.heap.size ∧ w.cell? ⟨nb, r, none⟩ = some u ∧ Room w u l[r]
theorem TabIs.tabV {w : World} {g : Tg} {e : Bool} {nb : Nat} {l : Tb Int} (h : TabIs w g e nb l) : TabV w (some ⟨nb, 0, none⟩) l := fun r hr => by
  obtain ⟨u, h1, _, h2, _⟩ := h.room r hr
  refine ⟨nb, u, rfl, ?_, h1, h2⟩
  obtain ⟨rv, a, _⟩ := h
  exact (Array.getElem?_eq_some_iff.1 a).1
theorem ElIs.tabV {w : World} {g : Tg} {ev : Value} {l : Tb Int} (h : ElIs w g ev l) : ∃ p c, ev = .slice p l.length c ∧ TabV w p l := by
  rcases h with ⟨rfl, rfl⟩ | ⟨eb, rfl, _, h⟩
  · exact ⟨none, 0, rfl, fun r hr => by simp at hr⟩
  · exact ⟨_, _, rfl, h.tabV⟩
/-- one more text behind, in a row that was made -/
theorem pushS {B : Nat} {W : World} {gN m d : Nat} {A : Row} (h : Own B W (.slice (some ⟨gN, 0, none⟩) m d) A) (hB : B ≤ W.heap.size) (t : List UInt8) (hl : A.length ≤ 900000) :
    ∃ g' d' W', (Builtin.append_ #[40, 40] 40 #[.slice (some ⟨gN, 0, none⟩) m d, .slice (some ⟨W.heap.size, 0, none⟩) 1 1]).run Tryd.prog (W.alloc (.cells #[txt t] 9)) = .ok (.slice (some ⟨g', 0, none⟩) (m + 1) d') W' ∧ Own B W' (.slice (some ⟨g', 0, none⟩) (m + 1) d') (A ++ [t]) ∧ Below B W W' := by
  obtain ⟨v', W', h1, h2, h3⟩ := h.push hB t hl
  have hm : m = A.length := by
    rcases h.2 with ⟨e, _⟩ | ⟨g', cap, cur, e, _⟩
    · cases e
    · injection e
  rcases h2.2 with ⟨_, e⟩ | ⟨g', cap, cur, rfl, _⟩
  · simp at e
  · have e : (A ++ [t]).length = m + 1 := by simp [hm]
    rw [e] at h1 h2
    exact ⟨g', cap, W', h1, h2, h3⟩
theorem names_len (l : Its Int) : (namesL l).length = l.length := by simp [namesL]
theorem names_app (a b : Its Int) : namesL (a ++ b) = namesL a ++ namesL b := by simp [namesL]
theorem names_takeV {l : Its Int} {i : Nat} (h : i < l.length) : namesL (l.take (i + 1)) = namesL (l.take i) ++ [l[i].1] := by
  rw [List.take_succ_eq_append_getElem h, names_app]; rfl
theorem flat_takeV {l : Tb Int} {i : Nat} (h : i < l.length) : namesL (l.take (i + 1)).flatten = namesL (l.take i).flatten ++ namesL l[i] := by
  rw [List.take_succ_eq_append_getElem h, List.flatten_append, names_app]; simp
/-- the names so far -/
def upTo (T : TM Int) : Nat → Row
  | 0 => []
  | 1 => namesL T.el.flatten
  | _ => namesL T.el.flatten ++ namesL T.nw.flatten
theorem flat_part {l : Tb Int} (i : Nat) : (l.take i).flatten.length ≤ l.flatten.length := by
  have : l.flatten = (l.take i).flatten ++ (l.drop i).flatten := by rw [← List.flatten_append, List.take_append_drop]
  rw [this, List.length_append]
  omega
theorem part_room {l : Tb Int} (i : Nat) (hi : i < l.length) (q : Nat) : (l.take i).flatten.length + (l[i].take q).length ≤ l.flatten.length := by
  have h1 := flat_part (l := l) (i + 1)
  rw [List.take_succ_eq_append_getElem hi, List.flatten_append, List.length_append] at h1
  simp at h1 ⊢
  omega
theorem make_row (w : World) (B c : Nat) (hB : B ≤ w.heap.size) (hc : c ≤ 1000000) : ∃ w', (Instr.makeSlice 40 (.int .i64 0) (.int .i64 (c : Int))).run Tryd.prog w = .ok (.slice (some ⟨w.heap.size, 0, none⟩) 0 c) w' ∧ Own B w' (.slice (some ⟨w.heap.size, 0, none⟩) 0 c) [] ∧ Below B w w' := by
  obtain ⟨i0, hi, hz0, hz1, hz2⟩ := info_parts infoS
  obtain ⟨w', h1, h2, h3⟩ := run_make_own (P := Tryd.prog) w B 40 9 i0 (.string ⟨#[]⟩) 1 Tryd.underlying40 hi hz0 hz1 .i64 .i64 c (by rw [hz2]; omega) (by unfold maxLen; omega) hB
  exact ⟨w', h1, h2, (Below.refl B w).grown h3 hB (fun k hk => by cases hk)⟩
theorem pick0 (a b : Option Addr) (n c m d : Nat) : ∀ w, (Instr.index 77 (.agg #[.slice a n c, .slice b m d]) (.int .i64 (0 : Nat))).run Tryd.prog w = .ok (.slice a n c) w := by
  intro w
  kernel_rfl
theorem pick1 (a b : Option Addr) (n c m d : Nat) : ∀ w, (Instr.index 77 (.agg #[.slice a n c, .slice b m d]) (.int .i64 (1 : Nat))).run Tryd.prog w = .ok (.slice b m d) w := by
  intro w
  kernel_rfl
set_option maxHeartbeats 4000000 in
set_option maxRecDepth 100000 in
/-- Names, ahead of the sort and behind it -/
theorem names_run {B : Nat} {w : World} {g : Tg} {b nb : Nat} {ev : Value} {T : TM Int} {many : Nat} (h : Lies B w g b nb ev T many) (hF : Fit T) (hm : many = T.el.flatten.length + T.nw.flatten.length) (hml : many ≤ 100000) :
    Calls Tryd.prog 17 #[.pointer (some ⟨b, 0, none⟩)] w fun e w' => ∃ q c, e = .returned (.slice (some q) many c) ∧ Hid (Own w.heap.size w' (.slice (some q) many c) (srtR (upTo T 2)) ∧ Below w.heap.size w w') := by
  obtain ⟨w1, hmk, hO1, hB1⟩ := make_row w w.heap.size many (Nat.le_refl _) (by omega)
  obtain ⟨_, _, _, c3⟩ := h.cells
  obtain ⟨d0, d1, _, _⟩ := (h.below hB1).cells
  obtain ⟨p, c, rfl, hE⟩ := h.el.tabV
  have HE := hid hE
  have HN := hid h.nw.tabV
  have HO1 := hid hO1
  have HB1 := hid hB1
  have HF := hid hF
  have HM := hid hm
  have hnN := hF.nN
  have heN := hF.eN
  have hmz : (many : Int) ≤ 100000 := by omega
  clear h hF hO1 hB1 hE hm
  go_enter Tryd.func17, Tryd.ntmps17
  go_wp2_with fail
  go_region
  go_wp2_with fail
  go_loopw [3, 24] (fun v3 v24 W => ∃ (j m gN d : Nat) (A : Row), v24 = .int .i64 j ∧ v3 = .slice (some ⟨gN, 0, none⟩) m d ∧ j ≤ 2 ∧ Hid (A = upTo T j) ∧ Hid (m = A.length) ∧ Hid (Own w.heap.size W (.slice (some ⟨gN, 0, none⟩) m d) A) ∧ Hid (Below w.heap.size w W)) (fun _ v24 _ => 2 - (intOf v24).toNat)
  case atStart => exact ⟨0, 0, w.heap.size, many, [], rfl, rfl, by omega, rfl, rfl, HO1.out, HB1.out.drew⟩
  case round =>
    obtain ⟨j, m, gN, d, A, rfl, rfl, hj, HA, Hm, HO, HW⟩ := hrel
    by_cases hlt : j < 2
    · have hlz : (j : Int) < 2 := by omega
      obtain ⟨P2, C2, L, hpick, hTV, hup, hLN, hLc⟩ : ∃ (P2 : Option Addr) (C2 : Nat) (L : Tb Int), (∀ w, (Instr.index 77 (.agg #[.slice p T.el.length c, .slice (some ⟨nb, 0, none⟩) T.nw.length T.nw.length]) (.int .i64 j)).run Tryd.prog w = .ok (.slice P2 L.length C2) w) ∧ TabV w P2 L ∧ upTo T (j + 1) = upTo T j ++ namesL L.flatten ∧ L.length ≤ 1000000 ∧ (upTo T j).length + L.flatten.length ≤ 100000 := by
        have hM := HM.out
        rcases (show j = 0 ∨ j = 1 by omega) with rfl | rfl
        · exact ⟨p, c, T.el, pick0 _ _ _ _ _ _, HE.out, by simp [upTo], heN, by simp only [upTo, List.length_nil]; omega⟩
        · exact ⟨_, _, T.nw, pick1 _ _ _ _ _ _, HN.out, by simp [upTo], hnN, by simp only [upTo, names_len]; omega⟩
      have HTV := hid hTV
      have HUp := hid hup
      have HLc := hid hLc
      have hLz : (L.length : Int) ≤ 1000000 := by omega
      clear hTV hup hLc hLN hnN heN hj hlt
      go_wp2_with fail
      go_loopw [3, 29] (fun v3 v29 W => ∃ (r m gN d : Nat) (A : Row), v29 = .int .i64 r ∧ v3 = .slice (some ⟨gN, 0, none⟩) m d ∧ r ≤ L.length ∧ Hid (A = upTo T j ++ namesL (L.take r).flatten) ∧ Hid (m = A.length) ∧ Hid (Own w.heap.size W (.slice (some ⟨gN, 0, none⟩) m d) A) ∧ Hid (Below w.heap.size w W)) (fun _ v29 _ => L.length - (intOf v29).toNat)
      case atStart => exact ⟨0, m, gN, d, A, rfl, rfl, Nat.zero_le _, by unfold Hid; rw [HA.out]; simp [namesL], Hm, HO.out, HW.out⟩
      case round =>
        obtain ⟨r, m, gN, d, A, rfl, rfl, hr, HA, Hm, HO, HW⟩ := hrel
        by_cases hrl : r < L.length
        · have hrz : (r : Int) < (L.length : Int) := by omega
          obtain ⟨tb, u, rfl, htb, hu, hR⟩ := HTV.out r hrl
          obtain ⟨pu, cu, rfl⟩ := hR.shape
          have x0 := cell_turn hu (HW.out.block tb htb)
          have HR := hid hR
          have HFl := hid (flat_takeV hrl)
          have HPr := hid (fun q => part_room (l := L) r hrl q)
          have hRl : L[r].length ≤ 100000 := by have := part_room (l := L) r hrl L[r].length; have := HLc.out; simp at *; omega
          have hRz : (L[r].length : Int) ≤ 100000 := by omega
          clear hu hR htb
          go_wp2_with fail
          go_loopw [3, 35] (fun v3 v35 W => ∃ (q m gN d : Nat) (A : Row), v35 = .int .i64 q ∧ v3 = .slice (some ⟨gN, 0, none⟩) m d ∧ q ≤ L[r].length ∧ Hid (A = upTo T j ++ namesL (L.take r).flatten ++ namesL (L[r].take q)) ∧ Hid (m = A.length) ∧ Hid (Own w.heap.size W (.slice (some ⟨gN, 0, none⟩) m d) A) ∧ Hid (Below w.heap.size w W)) (fun _ v35 _ => L[r].length - (intOf v35).toNat)
          case atStart => exact ⟨0, m, gN, d, A, rfl, rfl, Nat.zero_le _, by unfold Hid; rw [HA.out]; simp [namesL], Hm, HO.out, HW.out⟩
          case round =>
            obtain ⟨q, m, gN, d, A, rfl, rfl, hq, HA, Hm, HO, HW⟩ := hrel
            by_cases hql : q < L[r].length
            · have hqz : (q : Int) < (L[r].length : Int) := by omega
              obtain ⟨gr, rfl, hcl⟩ := HR.out.cells q hql
              have hgr := HW.out.block gr (HR.out.lt rfl)
              have y0 := cell_turn (hcl q hql).1 hgr
              have y1 := cell_turn (hcl q hql).2 hgr
              have HNx := hid (names_takeV hql)
              have hmz2 : m ≤ 900000 := by
                have h1 := HPr.out q
                have h2 := HLc.out
                rw [Hm.out, HA.out]
                simp only [List.length_append, names_len]
                omega
              generalize L[r][q] = x at *
              obtain ⟨n, v⟩ := x
              simp only at y0 y1 HNx
              have hba := below_alloc wr (.cells #[txt n, (.int .i64 v)] 75)
              have hws := Nat.le_trans HW.out.size hba.size
              obtain ⟨g', d', W', hrun, hO', hB'⟩ := pushS (owns_below HO.out hba) hws n (by rw [← Hm.out]; exact hmz2)
              have hsz1 : (wr.alloc (.cells #[txt n, (.int .i64 v)] 75)).heap.size = wr.heap.size + 1 := by simp
              rw [hsz1] at hrun
              have HRun := hid hrun
              have HO' := hid hO'
              have HW' := hid ((HW.out.trans (hba.mono HW.out.size)).trans hB')
              clear hcl hgr hba hws hrun hO' hB' hsz1
              go_wp2_with (refine wpList_append_runs rfl _ _ 40 40 rfl _ _ _ _ rfl rfl HRun.out (Hid.out ?_))
              refine hid ?_
              go_wp2_with fail
              exact ⟨⟨q + 1, m + 1, g', d', A ++ [n], by go_num, rfl, by omega, by unfold Hid; rw [HNx.out, HA.out]; simp, by unfold Hid; rw [Hm.out]; simp, HO'.out, HW'.out⟩, by simp [intOf]; omega⟩
            · obtain rfl : q = L[r].length := by omega
              rw [List.take_length] at HA
              go_wp2_with fail
              exact ⟨⟨r + 1, m, gN, d, A, by go_num, rfl, by omega, by unfold Hid; rw [HFl.out, HA.out]; simp, Hm, HO.out, HW.out⟩, by simp [intOf]; omega⟩
        · obtain rfl : r = L.length := by omega
          rw [List.take_length] at HA
          go_wp2_with fail
          exact ⟨⟨j + 1, m, gN, d, A, by go_num, rfl, by omega, by unfold Hid; rw [HUp.out, HA.out], Hm, HO.out, HW.out⟩, by simp [intOf]; omega⟩
    · obtain rfl : j = 2 := by omega
      have hmm : m = many := by rw [Hm.out, HA.out, HM.out]; simp only [upTo, List.length_append, names_len]
      have HSo := hid (sort_any HO.out HW.out.size (by rw [← Hm.out, hmm]; omega) Hm.out)
      rw [HA.out] at HSo
      subst hmm
      go_wp2_with fail
      refine HSo.out.mono ?_; rintro e w9 ⟨rfl, hh⟩
      go_wp2_with fail
      go_ret
      exact ⟨⟨gN, 0, none⟩, d, rfl, hh.out.1, HW.out.trans hh.out.2⟩

end Go.Proofs.YtphegggekcjenaaDoor.DI
