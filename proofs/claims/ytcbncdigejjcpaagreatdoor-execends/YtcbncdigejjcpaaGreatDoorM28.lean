/- DENames, DEClone, DECloneA, Prg1, CopyQ, PSize. -/
import Derived.Test.YtcbncdigejjcpaaGreatDoorM26
import Derived.Test.YtcbncdigejjcpaaGreatDoorM11
import Derived.Laws.CopyRow
import Derived.Laws.OwnMore
import Derived.Deep.RegionHeld3
import Derived.Test.YtcbncdigejjcpaaGreatDoorM19
import Derived.Test.YtcbncdigejjcpaaGreatDoorM18
import Derived.Test.YtcbncdigejjcpaaGreatDoorM20
import Derived.Lib.SliceRun
namespace Go.Proofs.YtcbncdigejjcpaaGreatDoor.Dc.DE
open Go.RowKit

/-- a table that may be read -/
def TabV (w : World) (p : Option Addr) (l : Tb E8) : Prop := ∀ r (h : r < l.length), ∃ nb u, p = some ⟨nb, 0, none⟩ ∧ nb < w.heap.size ∧ w.cell? ⟨nb, r, none⟩ = some u ∧ Room w u l[r]
theorem TabIs.tabV {w : World} {g : Tg} {e : Bool} {nb : Nat} {l : Tb E8} (h : TabIs w g e nb l) : TabV w (some ⟨nb, 0, none⟩) l := fun r hr => by
  obtain ⟨u, h1, _, h2, _⟩ := h.room r hr
  refine ⟨nb, u, rfl, ?_, h1, h2⟩
  obtain ⟨rv, a, _⟩ := h
  exact (Array.getElem?_eq_some_iff.1 a).1
theorem ElIs.tabV {w : World} {g : Tg} {ev : Value} {l : Tb E8} (h : ElIs w g ev l) : ∃ p c, ev = .slice p l.length c ∧ TabV w p l := by
  rcases h with ⟨rfl, rfl⟩ | ⟨eb, rfl, _, h⟩
  · exact ⟨none, 0, rfl, fun r hr => by simp at hr⟩
  · exact ⟨_, _, rfl, h.tabV⟩
/-- one more text behind, in a row that was made -/
theorem pushS {B : Nat} {W : World} {gN m d : Nat} {A : Row} (h : Own B W (.slice (some ⟨gN, 0, none⟩) m d) A) (hB : B ≤ W.heap.size) (t : List UInt8) (hl : A.length ≤ 900000) :
    ∃ g' d' W', (Builtin.append_ #[23, 23] 23 #[.slice (some ⟨gN, 0, none⟩) m d, .slice (some ⟨W.heap.size, 0, none⟩) 1 1]).run Tryz.prog (W.alloc (.cells #[txt t] 9)) = .ok (.slice (some ⟨g', 0, none⟩) (m + 1) d') W' ∧ Own B W' (.slice (some ⟨g', 0, none⟩) (m + 1) d') (A ++ [t]) ∧ Below B W W' := by
  obtain ⟨v', W', h1, h2, h3⟩ := h.push hB t (by omega)
  have hm : m = A.length := by
    rcases h.2 with ⟨e, _⟩ | ⟨g', cap, cur, e, _⟩
    · cases e
    · injection e
  rcases h2.2 with ⟨_, e⟩ | ⟨g', cap, cur, rfl, _⟩
  · simp at e
  · have e : (A ++ [t]).length = m + 1 := by simp [hm]
    rw [e] at h1 h2
    exact ⟨g', cap, W', h1, h2, h3⟩
theorem names_len (l : Its E8) : (namesL l).length = l.length := by simp [namesL]
theorem names_app (a b : Its E8) : namesL (a ++ b) = namesL a ++ namesL b := by simp [namesL]
theorem names_takeV {l : Its E8} {i : Nat} (h : i < l.length) : namesL (l.take (i + 1)) = namesL (l.take i) ++ [l[i].1] := by
  rw [List.take_succ_eq_append_getElem h, names_app]; rfl
theorem flat_takeV {l : Tb E8} {i : Nat} (h : i < l.length) : namesL (l.take (i + 1)).flatten = namesL (l.take i).flatten ++ namesL l[i] := by
  rw [List.take_succ_eq_append_getElem h, List.flatten_append, names_app]; simp
/-- the names so far -/
def upTo (T : TM E8) : Nat → Row
  | 0 => []
  | 1 => namesL T.el.flatten
  | _ => namesL T.el.flatten ++ namesL T.nw.flatten
theorem flat_part {l : Tb E8} (i : Nat) : (l.take i).flatten.length ≤ l.flatten.length := by
  have : l.flatten = (l.take i).flatten ++ (l.drop i).flatten := by rw [← List.flatten_append, List.take_append_drop]
  rw [this, List.length_append]
  omega
theorem part_room {l : Tb E8} (i : Nat) (hi : i < l.length) (q : Nat) : (l.take i).flatten.length + (l[i].take q).length ≤ l.flatten.length := by
  have h1 := flat_part (l := l) (i + 1)
  rw [List.take_succ_eq_append_getElem hi, List.flatten_append, List.length_append] at h1
  simp at h1 ⊢
  omega
theorem make_row (w : World) (B c : Nat) (hB : B ≤ w.heap.size) (hc : c ≤ 1000000) : ∃ w', (Instr.makeSlice 23 (.int .i64 0) (.int .i64 (c : Int))).run Tryz.prog w = .ok (.slice (some ⟨w.heap.size, 0, none⟩) 0 c) w' ∧ Own B w' (.slice (some ⟨w.heap.size, 0, none⟩) 0 c) [] ∧ Below B w w' := by
  obtain ⟨i0, hi, hz0, hz1, hz2⟩ := info_parts infoS
  obtain ⟨w', h1, h2, h3⟩ := run_make_own (P := Tryz.prog) w B 23 9 i0 (.string ⟨#[]⟩) 1 Tryz.underlying23 hi hz0 hz1 .i64 .i64 c (by rw [hz2]; omega) (by unfold maxLen; omega) hB
  exact ⟨w', h1, h2, (Below.refl B w).grown h3 hB (fun k hk => by cases hk)⟩
theorem pick0 (a b : Option Addr) (n c m d : Nat) : ∀ w, (Instr.index 87 (.agg #[.slice a n c, .slice b m d]) (.int .i64 (0 : Nat))).run Tryz.prog w = .ok (.slice a n c) w := by
  intro w
  kernel_rfl
theorem pick1 (a b : Option Addr) (n c m d : Nat) : ∀ w, (Instr.index 87 (.agg #[.slice a n c, .slice b m d]) (.int .i64 (1 : Nat))).run Tryz.prog w = .ok (.slice b m d) w := by
  intro w
  kernel_rfl
set_option maxHeartbeats 4000000 in
set_option maxRecDepth 100000 in
/-- Names, ahead of the sort and behind it -/
theorem names_run {B : Nat} {w : World} {g : Tg} {b nb : Nat} {ev : Value} {T : TM E8} {many : Nat} (h : Lies B w g b nb ev T many) (hF : Fit T) (hm : many = T.el.flatten.length + T.nw.flatten.length) (hml : many ≤ 100000) :
    Calls Tryz.prog 31 #[.pointer (some ⟨b, 0, none⟩)] w fun e w' => ∃ q c, e = .returned (.slice (some q) many c) ∧ Hid (Own w.heap.size w' (.slice (some q) many c) (srtR (upTo T 2)) ∧ Below w.heap.size w w') := by
  obtain ⟨w1, hmk, hO1, hB1⟩ := make_row w w.heap.size many (Nat.le_refl _) (by omega)
  obtain ⟨_, _, _, c3⟩ := h.cells
  obtain ⟨d0, d1, _, _⟩ := (h.below hB1).cells
  obtain ⟨p, c, rfl, hE⟩ := h.el.tabV
  have HE := hid hE
  have HN := hid h.nw.tabV
  have HO1 := hid hO1
  have HB1 := hid hB1
  have HF := hid hF
  have HM := hid hm
  have hnN := hF.nN
  have heN := hF.eN
  have hmz : (many : Int) ≤ 100000 := by omega
  clear h hF hO1 hB1 hE hm
  go_enter Tryz.func31, Tryz.ntmps31
  go_wp2_with fail
  go_region
  go_wp2_with fail
  go_loopw [3, 24] (fun v3 v24 W => ∃ (j m gN d : Nat) (A : Row), v24 = .int .i64 j ∧ v3 = .slice (some ⟨gN, 0, none⟩) m d ∧ j ≤ 2 ∧ Hid (A = upTo T j) ∧ Hid (m = A.length) ∧ Hid (Own w.heap.size W (.slice (some ⟨gN, 0, none⟩) m d) A) ∧ Hid (Below w.heap.size w W)) (fun _ v24 _ => 2 - (intOf v24).toNat)
  case atStart => exact ⟨0, 0, w.heap.size, many, [], rfl, rfl, by omega, rfl, rfl, HO1.out, HB1.out.drew⟩
  case round =>
    obtain ⟨j, m, gN, d, A, rfl, rfl, hj, HA, Hm, HO, HW⟩ := hrel
    by_cases hlt : j < 2
    · have hlz : (j : Int) < 2 := by omega
      obtain ⟨P2, C2, L, hpick, hTV, hup, hLN, hLc⟩ : ∃ (P2 : Option Addr) (C2 : Nat) (L : Tb E8), (∀ w, (Instr.index 87 (.agg #[.slice p T.el.length c, .slice (some ⟨nb, 0, none⟩) T.nw.length T.nw.length]) (.int .i64 j)).run Tryz.prog w = .ok (.slice P2 L.length C2) w) ∧ TabV w P2 L ∧ upTo T (j + 1) = upTo T j ++ namesL L.flatten ∧ L.length ≤ 1000000 ∧ (upTo T j).length + L.flatten.length ≤ 100000 := by
        have hM := HM.out
        rcases (show j = 0 ∨ j = 1 by omega) with rfl | rfl
        · exact ⟨p, c, T.el, pick0 _ _ _ _ _ _, HE.out, by simp [upTo], heN, by simp only [upTo, List.length_nil]; omega⟩
        · exact ⟨_, _, T.nw, pick1 _ _ _ _ _ _, HN.out, by simp [upTo], hnN, by simp only [upTo, names_len]; omega⟩
      have HTV := hid hTV
      have HUp := hid hup
      have HLc := hid hLc
      have hLz : (L.length : Int) ≤ 1000000 := by omega
      clear hTV hup hLc hLN hnN heN hj hlt
      go_wp2_with fail
      go_loopw [3, 29] (fun v3 v29 W => ∃ (r m gN d : Nat) (A : Row), v29 = .int .i64 r ∧ v3 = .slice (some ⟨gN, 0, none⟩) m d ∧ r ≤ L.length ∧ Hid (A = upTo T j ++ namesL (L.take r).flatten) ∧ Hid (m = A.length) ∧ Hid (Own w.heap.size W (.slice (some ⟨gN, 0, none⟩) m d) A) ∧ Hid (Below w.heap.size w W)) (fun _ v29 _ => L.length - (intOf v29).toNat)
      case atStart => exact ⟨0, m, gN, d, A, rfl, rfl, Nat.zero_le _, by unfold Hid; rw [HA.out]; simp [namesL], Hm, HO.out, HW.out⟩
      case round =>
        obtain ⟨r, m, gN, d, A, rfl, rfl, hr, HA, Hm, HO, HW⟩ := hrel
        by_cases hrl : r < L.length
        · have hrz : (r : Int) < (L.length : Int) := by omega
          obtain ⟨tb, u, rfl, htb, hu, hR⟩ := HTV.out r hrl
          obtain ⟨pu, cu, rfl⟩ := hR.shape
          have x0 := cell_turn hu (HW.out.block tb htb)
          have HR := hid hR
          have HFl := hid (flat_takeV hrl)
          have HPr := hid (fun q => part_room (l := L) r hrl q)
          have hRl : L[r].length ≤ 100000 := by have := part_room (l := L) r hrl L[r].length; have := HLc.out; simp at *; omega
          have hRz : (L[r].length : Int) ≤ 100000 := by omega
          clear hu hR htb
          go_wp2_with fail
          go_loopw [3, 35] (fun v3 v35 W => ∃ (q m gN d : Nat) (A : Row), v35 = .int .i64 q ∧ v3 = .slice (some ⟨gN, 0, none⟩) m d ∧ q ≤ L[r].length ∧ Hid (A = upTo T j ++ namesL (L.take r).flatten ++ namesL (L[r].take q)) ∧ Hid (m = A.length) ∧ Hid (Own w.heap.size W (.slice (some ⟨gN, 0, none⟩) m d) A) ∧ Hid (Below w.heap.size w W)) (fun _ v35 _ => L[r].length - (intOf v35).toNat)
          case atStart => exact ⟨0, m, gN, d, A, rfl, rfl, Nat.zero_le _, by unfold Hid; rw [HA.out]; simp [namesL], Hm, HO.out, HW.out⟩
          case round =>
            obtain ⟨q, m, gN, d, A, rfl, rfl, hq, HA, Hm, HO, HW⟩ := hrel
            by_cases hql : q < L[r].length
            · have hqz : (q : Int) < (L[r].length : Int) := by omega
              obtain ⟨gr, rfl, hcl⟩ := HR.out.cells q hql
              have hgr := HW.out.block gr (HR.out.lt rfl)
              obtain ⟨y0, y1, y2, y3, y4, y5, y6, y7, y8⟩ := hcl q hql
              replace y0 := cell_turn y0 hgr
              replace y1 := cell_turn y1 hgr
              replace y2 := cell_turn y2 hgr
              replace y3 := cell_turn y3 hgr
              replace y4 := cell_turn y4 hgr
              replace y5 := cell_turn y5 hgr
              replace y6 := cell_turn y6 hgr
              replace y7 := cell_turn y7 hgr
              replace y8 := cell_turn y8 hgr
              have HNx := hid (names_takeV hql)
              have hmz2 : m ≤ 900000 := by
                have h1 := HPr.out q
                have h2 := HLc.out
                rw [Hm.out, HA.out]
                simp only [List.length_append, names_len]
                omega
              generalize L[r][q] = x at *
              obtain ⟨n, v⟩ := x
              simp only at y0 y1 y2 y3 y4 y5 y6 y7 y8 HNx
              have hba := below_alloc wr (.cells #[txt n, txt v.key, .int .i64 v.m.kind, txt v.m.text, .slice v.pp v.m.pairs.length v.pc, .slice v.ip v.m.items.length v.ic, .int .i64 v.m.px, .int .i64 v.m.py, .int .i64 v.ends] 90)
              have hws := Nat.le_trans HW.out.size hba.size
              obtain ⟨g', d', W', hrun, hO', hB'⟩ := pushS (owns_below HO.out hba) hws n (by rw [← Hm.out]; exact hmz2)
              have hsz1 : (wr.alloc (.cells #[txt n, txt v.key, .int .i64 v.m.kind, txt v.m.text, .slice v.pp v.m.pairs.length v.pc, .slice v.ip v.m.items.length v.ic, .int .i64 v.m.px, .int .i64 v.m.py, .int .i64 v.ends] 90)).heap.size = wr.heap.size + 1 := by simp
              rw [hsz1] at hrun
              have HRun := hid hrun
              have HO' := hid hO'
              have HW' := hid ((HW.out.trans (hba.mono HW.out.size)).trans hB')
              clear hcl hgr hba hws hrun hO' hB' hsz1
              go_wp2_with (refine wpList_append_runs rfl _ _ 23 23 rfl _ _ _ _ rfl rfl HRun.out (Hid.out ?_))
              refine hid ?_
              go_wp2_with fail
              exact ⟨⟨q + 1, m + 1, g', d', A ++ [n], by go_num, rfl, by omega, by unfold Hid; rw [HNx.out, HA.out]; simp, by unfold Hid; rw [Hm.out]; simp, HO'.out, HW'.out⟩, by simp [intOf]; omega⟩
            · obtain rfl : q = L[r].length := by omega
              rw [List.take_length] at HA
              go_wp2_with fail
              exact ⟨⟨r + 1, m, gN, d, A, by go_num, rfl, by omega, by unfold Hid; rw [HFl.out, HA.out]; simp, Hm, HO.out, HW.out⟩, by simp [intOf]; omega⟩
        · obtain rfl : r = L.length := by omega
          rw [List.take_length] at HA
          go_wp2_with fail
          exact ⟨⟨j + 1, m, gN, d, A, by go_num, rfl, by omega, by unfold Hid; rw [HUp.out, HA.out], Hm, HO.out, HW.out⟩, by simp [intOf]; omega⟩
    · obtain rfl : j = 2 := by omega
      have hmm : m = many := by rw [Hm.out, HA.out, HM.out]; simp only [upTo, List.length_append, names_len]
      have HSo := hid (sort_any HO.out HW.out.size (by rw [← Hm.out, hmm]; omega) Hm.out)
      rw [HA.out] at HSo
      subst hmm
      go_wp2_with fail
      refine HSo.out.mono ?_; rintro e w9 ⟨rfl, hh⟩
      go_wp2_with fail
      go_ret
      exact ⟨⟨gN, 0, none⟩, d, rfl, hh.out.1, HW.out.trans hh.out.2⟩

end Go.Proofs.YtcbncdigejjcpaaGreatDoor.Dc.DE

namespace Go.Proofs.YtcbncdigejjcpaaGreatDoor
open Go.RowKit

theorem Tab.env {w w' : World} (h : Tab w) (hb : Below w.heap.size w w') : Tab w' := h.below hb h.room
set_option maxHeartbeats 2000000 in
set_option maxRecDepth 100000 in
/-- Dump -/
theorem pdump_any (m : Vl) (pp : Option Addr) (pc' : Nat) (ip : Option Addr) (ic : Nat) (w : World) (hTb : Tab w) (hC : Came m) (hV : VI w m pp pc' ip ic) :
    Calls Tryz.prog 135 #[vv m pp pc' ip ic] w fun e w' => e = .returned (.tuple #[txt (dumpS m), .bool (rightB m)]) ∧ Hid (Below w.heap.size w w') := by
  have HB := hid (below_alloc w (vob m pp pc' ip ic))
  have HX := hid (val_new w m pp pc' ip ic)
  have HVI := hid hV
  have HTb := hid hTb
  have HR : Hid (∀ W, VI W m pp pc' ip ic → Calls Tryz.prog 190 #[vv m pp pc' ip ic] W fun e w' => e = .returned (.bool (rightB m)) ∧ Hid (Below W.heap.size W w')) := fun W h => pright_any m pp pc' ip ic W hC h
  obtain ⟨c0, c1, c2, c3, c4, c5⟩ := val_facts HX.out
  by_cases h : rightB m = true
  · have HBo : Hid (∀ W, VI W m pp pc' ip ic → Calls Tryz.prog 191 #[.slice none 0 0, vv m pp pc' ip ic] W fun e w' => ∃ q d, e = .returned (.slice q (bodyV m).length d) ∧ Hid (w'.ownsRow W.heap.size 5 1 (.slice q (bodyV m).length d) (bodyV m).length (Lib.byteCells (bodyV m)) ∧ Below W.heap.size W w')) := fun W h' => apv_any m (rightB_iff.1 h) pp pc' ip ic W h'
    rw [show dumpS m = dumpV m from if_pos h]
    rw [h] at HR ⊢
    have hmax := body_max (rightB_iff.1 h)
    have HSm := hid (fun q d W ht hb => psum_any q d (bodyV m) W ht hb)
    have HN : Hid (∀ B w1 W q d, Txt B w1 W (.slice q (bodyV m).length d) (bodyV m) → PutsN 192 #[.slice q (bodyV m).length d, .int .i64 2, .int .i64 (sumN (bodyV m) : Int)] B w1 W (dumpV m)) := fun B w1 W q d h => apnum2_n (sumN (bodyV m)) B w1 W q (bodyV m).length d (bodyV m) h (by omega)
    have hslt := sumN_lt (bodyV m)
    generalize dumpV m = D at *
    generalize sumN (bodyV m) = sm at *
    have hsz : (sm : Int) < 65536 := by omega
    have hwr : IntKind.i64.wrap (sm : Int) = (sm : Int) := by rw [IntKind.wrap_i64]; omega
    generalize bodyV m = Bd at *
    have hbz : (Bd.length : Int) ≤ 1000000 := by omega
    have HMx := hid hmax
    obtain ⟨n, hn⟩ : ∃ n, n = Bd.length := ⟨_, rfl⟩
    have HNl := hid hn
    rw [← hn] at HBo HSm HN hbz
    clear h hV hC hTb hmax hn
    go_enter Tryz.func135, Tryz.ntmps135
    go_wp2_with fail
    refine (HR.out _ (HVI.out.below HB.out)).mono ?_; rintro e w1 ⟨rfl, hh⟩
    have HX1 := hid ((hh.out.block w.heap.size (by simp)).trans HX.out)
    have HW1 := hid (HB.out.trans (hh.out.mono HB.out.size))
    clear hh c0 c1 c2 c3 c4 c5
    obtain ⟨c0, c1, c2, c3, c4, c5⟩ := val_facts HX1.out
    go_wp2_with fail
    refine (HBo.out _ (HVI.out.below HW1.out)).mono ?_; rintro e w2 ⟨q, d, rfl, hh⟩
    have ho2 := hh.out.1
    rw [HNl.out] at ho2
    have HO2 := hid ho2
    have HS2 := hid hh.out.2.size
    have HW2 := hid (HW1.out.trans (hh.out.2.mono HW1.out.size))
    clear hh c0 c1 c2 c3 c4 c5 ho2
    go_wp2_with fail
    refine (HSm.out q d _ (HTb.out.env HW2.out) (own_byts HO2.out (by have := HMx.out; omega))).mono ?_; rintro e w3 ⟨rfl, hw⟩
    rw [hw]; clear hw w3
    go_wp2_with fail
    refine (HN.out w1.heap.size w2 _ q d (by rw [HNl.out]; exact ⟨HO2.out, Below.refl _ _, HS2.out⟩)).mono ?_; rintro e w4 ⟨q4, N4, d4, rfl, hh⟩
    have hl4 := hh.out.1.num
    subst hl4
    have cv := owns_string hh.out.1.own
    have HW4 := hid (HW2.out.trans (hh.out.1.bel.mono HW1.out.size))
    clear hh
    go_wp2_with fail
    go_ret2
    exact ⟨rfl, HW4.out⟩
  · have h' : rightB m = false := by simpa using h
    rw [show dumpS m = [] from if_neg h]
    rw [h'] at HR ⊢
    clear h h' hV hC hTb
    go_enter Tryz.func135, Tryz.ntmps135
    go_wp2_with fail
    refine (HR.out _ (HVI.out.below HB.out)).mono ?_; rintro e w1 ⟨rfl, hh⟩
    have HW1 := hid (HB.out.trans (hh.out.mono HB.out.size))
    clear hh
    go_wp2_with fail
    go_ret2
    exact ⟨rfl, HW1.out⟩
end Go.Proofs.YtcbncdigejjcpaaGreatDoor

namespace Go.Proofs.YtcbncdigejjcpaaGreatDoor
open Go.RowKit

/-- rows of the call's own that may be written -/
structure Wt (B : Nat) (w : World) (pp ip : Option Addr) (np ni : Nat) : Prop where
  items : 0 < ni → ∃ g o cs, ip = some ⟨g, o, none⟩ ∧ B ≤ g ∧ w.heap[g]? = some (.cells cs 9 (0, 0))
  pairs : 0 < np → ∃ g o cs, pp = some ⟨g, o, none⟩ ∧ B ≤ g ∧ w.heap[g]? = some (.cells cs 102 (0, 0))
theorem Wt.turn {B : Nat} {w w' : World} {pp ip : Option Addr} {np ni : Nat} (h : Wt B w pp ip np ni) (hb : Below w.heap.size w w') : Wt B w' pp ip np ni := by
  refine ⟨fun k => ?_, fun k => ?_⟩
  · obtain ⟨g, o, cs, h1, h2, h3⟩ := h.items k
    exact ⟨g, o, cs, h1, h2, (hb.block g (Array.getElem?_eq_some_iff.1 h3).1).trans h3⟩
  · obtain ⟨g, o, cs, h1, h2, h3⟩ := h.pairs k
    exact ⟨g, o, cs, h1, h2, (hb.block g (Array.getElem?_eq_some_iff.1 h3).1).trans h3⟩
/-- the room of a row of pairs of the call's own -/
def Roomy (B : Nat) (w : World) (pp : Option Addr) (pc np : Nat) : Prop := 0 < np → ∃ g cs, pp = some ⟨g, 0, none⟩ ∧ B ≤ g ∧ w.heap[g]? = some (.cells cs 102 (0, 0)) ∧ cs.size = pc * 2 ∧ pc ≤ maxLen
theorem roomy_of {B B' : Nat} {w : World} {q : Option Addr} {n d : Nat} {l : List (Nm × Nm)} (h : OwnP B' w (.slice q n d) l) (hB : B ≤ B') : Roomy B w q d l.length := fun hne => by
  rcases h.2 with ⟨h1, h0⟩ | ⟨g, cap, cur, h1, h2, h3, h4, h5, h6, _⟩
  · omega
  · injection h1 with e1 e2 e3
    subst e1 e2 e3
    exact ⟨g, cur, rfl, by omega, h3, h6, h5⟩
/-- a row is put behind an empty one -/
theorem cloneT_any_run (a : Addr) (c : Nat) (l : Row) (w : World) (h : Rd w (some a) c l) (hl : l.length * 16 ≤ 140737488351232) :
    ∃ q d W', (Builtin.append_ #[23, 23] 23 #[.slice (some ⟨w.heap.size, 0, none⟩) 0 0, .slice (some a) l.length c]).run Tryz.prog (w.alloc (.cells #[] 9)) = .ok (.slice q l.length d) W' ∧ Own w.heap.size W' (.slice q l.length d) l ∧ Below w.heap.size w W' := by
  obtain ⟨i0, hi, hz0, hz1, hz2⟩ := info_parts infoS
  have hb := below_alloc w (.cells #[] 9)
  have ho : (w.alloc (.cells #[] 9)).ownsRow w.heap.size 9 1 (.slice (some ⟨w.heap.size, 0, none⟩) 0 0) 0 [] := World.ownsRow_lit w #[] 0 (Nat.le_refl _) (by unfold maxLen; omega) rfl
  obtain ⟨v', W', hrun, ho', hgr, _⟩ : ∃ v' W', (Builtin.append_ #[23, 23] 23 #[.slice (some ⟨w.heap.size, 0, none⟩) 0 0, .slice (some a) l.length c]).run Tryz.prog (w.alloc (.cells #[] 9)) = .ok v' W' ∧ W'.ownsRow w.heap.size 9 1 v' (0 + l.length) ([] ++ (l.map txt)) ∧ (w.alloc (.cells #[] 9)).grownBy W' (some w.heap.size) ∧ True := by
    by_cases hne : l = []
    · subst hne
      obtain ⟨v', W', h1, h2, h3, _⟩ := run_append_own (P := Tryz.prog) (w.alloc (.cells #[] 9)) w.heap.size 23 23 9 i0 (.string ⟨#[]⟩) 1 16 Tryz.underlying23 hi hz0 hz1 hz2 rfl (by decide) _ _ _ ho a 0 c [] rfl (fun j u hj => by simp at hj) (fun u hu => by cases hu) (by unfold maxLen; omega) (by omega) hb.size
      exact ⟨v', W', h1, h2, h3, trivial⟩
    · obtain ⟨g, off, e, hc⟩ := h.strs hne
      injection e with e
      subst e
      obtain ⟨v', W', h1, h2, h3, _⟩ := run_append_own (P := Tryz.prog) (w.alloc (.cells #[] 9)) w.heap.size 23 23 9 i0 (.string ⟨#[]⟩) 1 16 Tryz.underlying23 hi hz0 hz1 hz2 rfl (by decide) _ _ _ ho ⟨g, off, none⟩ l.length c (l.map txt) (by simp)
          (fun j u' hj => by
            rw [Go.WideShapes.add_plain]
            rw [List.getElem?_map] at hj
            cases hm : l[j]? with
            | none => rw [hm] at hj; cases hj
            | some x =>
              rw [hm] at hj
              obtain ⟨hjl, e⟩ := List.getElem?_eq_some_iff.1 hm
              rw [← hj, ← e]
              exact cell_turn (hc j hjl) (hb.block g (block_lt_of_cell (hc j hjl))))
          (fun u' hu' => by
            obtain ⟨x, _, rfl⟩ := List.mem_map.1 hu'
            rfl)
          (by unfold maxLen; omega) (by omega) hb.size
      exact ⟨v', W', h1, h2, h3, trivial⟩
  rw [Nat.zero_add, List.nil_append] at ho'
  have ho2 : Own w.heap.size W' v' l := ho'
  obtain ⟨q, d, rfl, -⟩ := ho2.shape
  exact ⟨q, d, W', hrun, ho2, hb.grown hgr hb.size (fun k hk => by injection hk with hk; omega)⟩
set_option maxHeartbeats 1000000 in
set_option maxRecDepth 100000 in
theorem cloneT_any (pa : Option Addr) (c : Nat) (l : Row) (w : World) (h : Rd w pa c l) (hl : l.length * 16 ≤ 140737488351232) :
    Calls Tryz.prog 146 #[.slice pa l.length c] w fun e w' => ∃ q d, e = .returned (.slice q l.length d) ∧ Hid (Own w.heap.size w' (.slice q l.length d) l ∧ Below w.heap.size w w') := by
  cases pa with
  | none =>
    obtain rfl : c = 0 := h.nil rfl
    obtain rfl : l = [] := List.length_eq_zero_iff.1 (by have := h.cap; omega)
    have eq0 : ∀ w, (binOp .eql 23 (.slice none 0 0) (.slice none 0 0)).run Tryz.prog w = .ok (.bool true) w := fun w => Lib.run_eql_slice_nil (P := Tryz.prog) w 23 9 none 0 0 0 0 Tryz.underlying23
    have HO : Hid (Own w.heap.size w (.slice none 0 0) []) := World.ownsRow_nil _ _ _ _
    go_enter Tryz.func146, Tryz.ntmps146
    go_wp2_with fail
    go_ret
    exact ⟨none, 0, rfl, HO.out, Below.refl _ _⟩
  | some a =>
    obtain ⟨q, d, W', hrun, ho, hb⟩ := cloneT_any_run a c l w h hl
    have HR := hid hrun
    have HO := hid ho
    have HB := hid hb
    obtain ⟨n, hn⟩ : ∃ n, n = l.length := ⟨_, rfl⟩
    rw [← hn] at HR HO ⊢
    have eq0 : ∀ w, (binOp .eql 23 (.slice (some a) n c) (.slice none 0 0)).run Tryz.prog w = .ok (.bool false) w := fun w => Lib.run_eql_slice_nil (P := Tryz.prog) w 23 9 (some a) n c 0 0 Tryz.underlying23
    clear h hl hrun ho hb hn
    go_enter Tryz.func146, Tryz.ntmps146
    go_wp2_with (refine wpList_append_runs rfl _ _ 23 23 rfl _ _ _ _ rfl rfl HR.out (Hid.out ?_))
    refine hid ?_
    go_wp2_with fail
    go_ret
    exact ⟨q, d, rfl, HO.out, HB.out⟩
/-- a row is put behind an empty one -/
theorem cloneP_any_run (a : Addr) (c : Nat) (l : List (Nm × Nm)) (w : World) (h : Rp w (some a) c l) (hl : l.length * 32 ≤ 140737488351232) :
    ∃ q d W', (Builtin.append_ #[45, 45] 45 #[.slice (some ⟨w.heap.size, 0, none⟩) 0 0, .slice (some a) l.length c]).run Tryz.prog (w.alloc (.cells #[] 102)) = .ok (.slice q l.length d) W' ∧ OwnP w.heap.size W' (.slice q l.length d) l ∧ Below w.heap.size w W' := by
  obtain ⟨i0, hi, hz0, hz1, hz2⟩ := info_parts infoP
  have hb := below_alloc w (.cells #[] 102)
  have ho : (w.alloc (.cells #[] 102)).ownsRow w.heap.size 102 2 (.slice (some ⟨w.heap.size, 0, none⟩) 0 0) 0 [] := World.ownsRow_lit w #[] 0 (Nat.le_refl _) (by unfold maxLen; omega) rfl
  obtain ⟨v', W', hrun, ho', hgr, _⟩ : ∃ v' W', (Builtin.append_ #[45, 45] 45 #[.slice (some ⟨w.heap.size, 0, none⟩) 0 0, .slice (some a) l.length c]).run Tryz.prog (w.alloc (.cells #[] 102)) = .ok v' W' ∧ W'.ownsRow w.heap.size 102 2 v' (0 + l.length) ([] ++ (pcs l)) ∧ (w.alloc (.cells #[] 102)).grownBy W' (some w.heap.size) ∧ True := by
    by_cases hne : l = []
    · subst hne
      obtain ⟨v', W', h1, h2, h3, _⟩ := run_append_own (P := Tryz.prog) (w.alloc (.cells #[] 102)) w.heap.size 45 45 102 i0 (.agg #[.string ⟨#[]⟩, .string ⟨#[]⟩]) 2 32 Tryz.underlying45 hi hz0 hz1 hz2 rfl (by decide) _ _ _ ho a 0 c [] rfl (fun j u hj => by simp at hj) (fun u hu => by cases hu) (by unfold maxLen; omega) (by omega) hb.size
      exact ⟨v', W', h1, h2, h3, trivial⟩
    · obtain ⟨g, off, e, hc⟩ := h.prs hne
      injection e with e
      subst e
      obtain ⟨v', W', h1, h2, h3, _⟩ := run_append_own (P := Tryz.prog) (w.alloc (.cells #[] 102)) w.heap.size 45 45 102 i0 (.agg #[.string ⟨#[]⟩, .string ⟨#[]⟩]) 2 32 Tryz.underlying45 hi hz0 hz1 hz2 rfl (by decide) _ _ _ ho ⟨g, off, none⟩ l.length c (pcs l) (by exact pcs_len l)
          (fun j u' hj => by
            rw [Go.WideShapes.add_plain]
            have hjl : j < l.length * 2 := by have := (List.getElem?_eq_some_iff.1 hj).1; rwa [pcs_len] at this
            have hi : j / 2 < l.length := by omega
            have h0 := hc (j / 2) hi
            have h1 := pcs_at l (j / 2) hi
            have hbl := hb.block g (block_lt_of_cell h0.1)
            rcases (show j = j / 2 * 2 ∨ j = j / 2 * 2 + 1 by omega) with e | e
            · rw [e] at hj ⊢
              rw [h1.1] at hj
              rw [← hj]
              exact cell_turn h0.1 hbl
            · rw [e] at hj ⊢
              rw [h1.2] at hj
              rw [← hj]
              exact cell_turn h0.2 hbl)
          (fun u' hu' => by
            obtain ⟨x, _, hx⟩ := List.mem_flatMap.1 hu'
            simp only [List.mem_cons, List.not_mem_nil, or_false] at hx
            rcases hx with rfl | rfl <;> rfl)
          (by unfold maxLen; omega) (by omega) hb.size
      exact ⟨v', W', h1, h2, h3, trivial⟩
  rw [Nat.zero_add, List.nil_append] at ho'
  have ho2 : OwnP w.heap.size W' v' l := ho'
  obtain ⟨q, d, rfl⟩ := ho2.shape
  exact ⟨q, d, W', hrun, ho2, hb.grown hgr hb.size (fun k hk => by injection hk with hk; omega)⟩
set_option maxHeartbeats 1000000 in
set_option maxRecDepth 100000 in
theorem cloneP_any (pa : Option Addr) (c : Nat) (l : List (Nm × Nm)) (w : World) (h : Rp w pa c l) (hl : l.length * 32 ≤ 140737488351232) :
    Calls Tryz.prog 145 #[.slice pa l.length c] w fun e w' => ∃ q d, e = .returned (.slice q l.length d) ∧ Hid (OwnP w.heap.size w' (.slice q l.length d) l ∧ Below w.heap.size w w') := by
  cases pa with
  | none =>
    obtain rfl : c = 0 := h.nil rfl
    obtain rfl : l = [] := List.length_eq_zero_iff.1 (by have := h.cap; omega)
    have eq0 : ∀ w, (binOp .eql 45 (.slice none 0 0) (.slice none 0 0)).run Tryz.prog w = .ok (.bool true) w := fun w => Lib.run_eql_slice_nil (P := Tryz.prog) w 45 102 none 0 0 0 0 Tryz.underlying45
    have HO : Hid (OwnP w.heap.size w (.slice none 0 0) []) := World.ownsRow_nil _ _ _ _
    go_enter Tryz.func145, Tryz.ntmps145
    go_wp2_with fail
    go_ret
    exact ⟨none, 0, rfl, HO.out, Below.refl _ _⟩
  | some a =>
    obtain ⟨q, d, W', hrun, ho, hb⟩ := cloneP_any_run a c l w h hl
    have HR := hid hrun
    have HO := hid ho
    have HB := hid hb
    obtain ⟨n, hn⟩ : ∃ n, n = l.length := ⟨_, rfl⟩
    rw [← hn] at HR HO ⊢
    have eq0 : ∀ w, (binOp .eql 45 (.slice (some a) n c) (.slice none 0 0)).run Tryz.prog w = .ok (.bool false) w := fun w => Lib.run_eql_slice_nil (P := Tryz.prog) w 45 102 (some a) n c 0 0 Tryz.underlying45
    clear h hl hrun ho hb hn
    go_enter Tryz.func145, Tryz.ntmps145
    go_wp2_with (refine wpList_append_runs rfl _ _ 45 45 rfl _ _ _ _ rfl rfl HR.out (Hid.out ?_))
    refine hid ?_
    go_wp2_with fail
    go_ret
    exact ⟨q, d, rfl, HO.out, HB.out⟩
theorem own_block {B : Nat} {w : World} {e : TypeId} {size : Nat} {q : Option Addr} {n m d : Nat} {xs : List Value} (h : w.ownsRow B e size (.slice q n d) m xs) (hm : 0 < m) : ∃ g o cs, q = some ⟨g, o, none⟩ ∧ B ≤ g ∧ w.heap[g]? = some (.cells cs e (0, 0)) := by
  rcases h.2 with ⟨h1, h0⟩ | ⟨g, cap, cur, h1, h2, h3, _⟩
  · omega
  · injection h1 with h1 _ _
    exact ⟨g, 0, cur, h1, h2, h3⟩
set_option maxHeartbeats 4000000 in
set_option maxRecDepth 100000 in
/-- Copy -/
theorem pcopy_any (m : Vl) (pp : Option Addr) (pc' : Nat) (ip : Option Addr) (ic : Nat) (w : World) (hR : m.pairs.length * 32 ≤ 140737488351232 ∧ m.items.length * 16 ≤ 140737488351232) (hV : VI w m pp pc' ip ic) :
    Calls Tryz.prog 63 #[vv m pp pc' ip ic] w fun e w' => ∃ pp2 pc2 ip2 ic2, e = .returned (vv m pp2 pc2 ip2 ic2) ∧ Hid (VI w' m pp2 pc2 ip2 ic2 ∧ (Wt w.heap.size w' pp2 ip2 m.pairs.length m.items.length ∧ Roomy w.heap.size w' pp2 pc2 m.pairs.length) ∧ Below w.heap.size w w') := by
  obtain ⟨k, t, ps, is, x, y⟩ := m
  dsimp only at hR
  have HA := hid (al_two w (vob ⟨k, t, ps, is, x, y⟩ pp pc' ip ic) (vob zeroV none 0 none 0))
  obtain ⟨a0, a1, a2, a3, a4, a5⟩ := val_facts HA.out.2.1
  dsimp only at a0 a1 a2 a3 a4 a5
  have HVI := hid hV
  have HP := hid (fun W h => cloneP_any pp pc' ps W h hR.1)
  have HI := hid (fun W h => cloneT_any ip ic is W h hR.2)
  dsimp only
  clear hV hR
  go_enter Tryz.func63, Tryz.ntmps63
  go_wp2_with fail
  refine (HP.out _ (HVI.out.below HA.out.1).pairs).mono ?_; rintro e w1 ⟨q1, d1, rfl, hh⟩
  have hx1 := (hh.out.2.block w.heap.size (by simp; omega)).trans HA.out.2.1
  have hy1 := (hh.out.2.block (w.heap.size + 1) (by simp)).trans HA.out.2.2.1
  have hs1 : w.heap.size + 2 ≤ w1.heap.size := by have := hh.out.2.size; rw [HA.out.2.2.2] at this; exact this
  have ho1 := hh.out.1
  rw [HA.out.2.2.2] at ho1
  have HX1 : Hid ((w1.setCell ⟨w.heap.size, 2, none⟩ (.slice q1 ps.length d1)).heap[w.heap.size]? = some (.cells #[.int .i64 k, txt t, .slice q1 ps.length d1, .slice ip is.length ic, .int .i64 x, .int .i64 y] 49 (0, 0))) := heap_setCell_same _ _ 2 _ _ _ hx1
  have HY1 := hid ((Below.heap_setCell w1 ⟨w.heap.size, 2, none⟩ (.slice q1 ps.length d1) (w.heap.size + 1) (by simp)).trans hy1)
  have HO1 : Hid (OwnP (w.heap.size + 2) (w1.setCell ⟨w.heap.size, 2, none⟩ (.slice q1 ps.length d1)) (.slice q1 ps.length d1) ps) := OwnP.set ho1 _ _ _ (by omega)
  have HW1 := hid ((HA.out.1.trans (hh.out.2.mono HA.out.1.size)).setCell (p := ⟨w.heap.size, 2, none⟩) (Nat.le_refl _) (.slice q1 ps.length d1))
  have HS1 : Hid (w.heap.size + 2 ≤ (w1.setCell ⟨w.heap.size, 2, none⟩ (.slice q1 ps.length d1)).heap.size) := Nat.le_trans hs1 (Below.refl 0 w1 |>.setCell (p := ⟨w.heap.size, 2, none⟩) (Nat.zero_le _) (.slice q1 ps.length d1)).size
  obtain ⟨f0, f1, f2, f3, f4, f5⟩ := val_frozen hx1
  obtain ⟨b0, b1, b2, b3, b4, b5⟩ := val_facts hx1
  dsimp only at b0 b1 b2 b3 b4 b5
  clear hh hx1 hy1 ho1 a0 a1 a2 a3 a4 a5
  go_wp2_with fail
  refine (HI.out _ (HVI.out.below HW1.out).items).mono ?_; rintro e w2 ⟨q2, d2, rfl, hh⟩
  have hx2 := (hh.out.2.block w.heap.size (by have := HS1.out; omega)).trans HX1.out
  have hy2 := (hh.out.2.block (w.heap.size + 1) (by have := HS1.out; omega)).trans HY1.out
  have HX2 : Hid ((w2.setCell ⟨w.heap.size, 3, none⟩ (.slice q2 is.length d2)).heap[w.heap.size]? = some (.cells #[.int .i64 k, txt t, .slice q1 ps.length d1, .slice q2 is.length d2, .int .i64 x, .int .i64 y] 49 (0, 0))) := heap_setCell_same _ _ 3 _ _ _ hx2
  have HY2 := hid ((Below.heap_setCell w2 ⟨w.heap.size, 3, none⟩ (.slice q2 is.length d2) (w.heap.size + 1) (by simp)).trans hy2)
  have HP2 : Hid (OwnP (w.heap.size + 2) (w2.setCell ⟨w.heap.size, 3, none⟩ (.slice q2 is.length d2)) (.slice q1 ps.length d1) ps) := OwnP.set (owns_below HO1.out hh.out.2) _ _ _ (by omega)
  have HO2 : Hid (Own (w.heap.size + 2) (w2.setCell ⟨w.heap.size, 3, none⟩ (.slice q2 is.length d2)) (.slice q2 is.length d2) is) := own_set (hh.out.1.base HS1.out) _ _ _ (by omega)
  have HW2 := hid ((HW1.out.trans (hh.out.2.mono HW1.out.size)).setCell (p := ⟨w.heap.size, 3, none⟩) (Nat.le_refl _) (.slice q2 is.length d2))
  clear f0 f1 f2 f3 f4 f5 b0 b1 b2 b3 b4 b5
  obtain ⟨f0, f1, f2, f3, f4, f5⟩ := val_frozen hx2
  obtain ⟨b0, b1, b2, b3, b4, b5⟩ := val_facts hx2
  obtain ⟨r0, r1, r2, r3, r4, r5⟩ := val_facts hy2
  obtain ⟨s0, s1, s2, s3, s4, s5⟩ := val_frozen hy2
  clear hh hx2 hy2
  go_wp2_with fail
  refine bodyPost_ret (v := vv ⟨k, t, ps, is, x, y⟩ q1 d1 q2 d2) ?_ rfl ?_
  · exact ret_val rfl rfl (set_six HY2.out HW2.out (by omega)).1
  · refine ⟨q1, d1, q2, d2, rfl, ?_, ⟨⟨fun h => ?_, fun h => ?_⟩, roomy_of (OwnP.set6 HP2.out (w.heap.size + 1) (by omega) _ _ _ _ _ _) (by omega)⟩, (set_six HY2.out HW2.out (by omega)).2⟩
    · exact ⟨((OwnP.set6 HP2.out (w.heap.size + 1) (by omega) _ _ _ _ _ _)).rp, ((own_set6 HO2.out (w.heap.size + 1) (by omega) _ _ _ _ _ _)).rd⟩
    · obtain ⟨g, o, cs, h1, h2, h3⟩ := own_block (own_set6 HO2.out (w.heap.size + 1) (by omega) _ _ _ _ _ _) h
      exact ⟨g, o, cs, h1, by omega, h3⟩
    · obtain ⟨g, o, cs, h1, h2, h3⟩ := own_block (OwnP.set6 HP2.out (w.heap.size + 1) (by omega) _ _ _ _ _ _) h
      exact ⟨g, o, cs, h1, by omega, h3⟩

end Go.Proofs.YtcbncdigejjcpaaGreatDoor

namespace Go.Proofs.YtcbncdigejjcpaaGreatDoor
open Go.RowKit

set_option maxHeartbeats 1000000 in
set_option maxRecDepth 100000 in
/-- Size -/
theorem psize_any (m : Vl) (pp : Option Addr) (pc' : Nat) (ip : Option Addr) (ic : Nat) (w : World) (hTb : Tab w) (hC : Came m) (hV : VI w m pp pc' ip ic) :
    Calls Tryz.prog 140 #[vv m pp pc' ip ic] w fun e w' => e = .returned (.int .i64 ((dumpS m).length : Int)) ∧ Hid (Below w.heap.size w w') := by
  have HB := hid (below_alloc w (vob m pp pc' ip ic))
  obtain ⟨c0, c1, c2, c3, c4, c5⟩ := val_facts (val_new w m pp pc' ip ic)
  have H1 := hid (pdump_any m pp pc' ip ic _ (hTb.env HB.out) hC (hV.below HB.out))
  have hmx := dumpS_max m
  generalize dumpS m = D at *
  generalize rightB m = R at *
  have hz : (D.length : Int) ≤ 1000002 := by omega
  clear hTb hC hV hmx
  go_enter Tryz.func140, Tryz.ntmps140
  go_wp2_with fail
  refine H1.out.mono ?_; rintro e w1 ⟨rfl, hh⟩
  have HW1 := hid (HB.out.trans (hh.out.mono HB.out.size))
  clear hh
  go_wp2_with fail
  go_ret
  exact ⟨rfl, HW1.out⟩

end Go.Proofs.YtcbncdigejjcpaaGreatDoor
