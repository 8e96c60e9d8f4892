/- Does a dict tell what the document says? The law's stands. -/
import Derived.Test.YtphegggekcjenaaDoorBegun
namespace Go.Proofs.YtphegggekcjenaaDoor
open Go.RowKit

set_option maxHeartbeats 1000000 in
set_option maxRecDepth 100000 in
theorem stands_any {V : World → Prop} {B : Nat} {Dq : World → Nat → (Nat → Prop) → DM Int → Prop} (M : MethI V B Dq) (b : Nat) (O : Nat → Prop) (D : DM Int) (v : Value) (w : World) (hD : Dq w b O D) (h : It (Off O) w v D.L) (hs : Small 100000 D) :
    Calls Tryd.prog 11 #[ptr b, rdV v D.rooms D.left] w fun e w' => e = .returned (.bool true) ∧ Hid (Below w.heap.size w w') := by
  obtain ⟨p, c, rfl, -⟩ := h.shape
  have HB0 := hid (below_alloc w (.cells #[.slice p D.L.length c, .int .i64 D.rooms, .int .i64 D.left] 26))
  have H0 := hid (heap_alloc_new w (.cells #[.slice p D.L.length c, .int .i64 D.rooms, .int .i64 D.left] 26))
  have HRm := hid (M.rooms b O D _ (M.below hD HB0.out) hs)
  have HLn := hid fun (W : World) (hb : Below w.heap.size w W) => M.length b O D W (M.below hD hb)
  have HNm := hid fun (W : World) (hb : Below w.heap.size w W) => M.names b O D W (M.below hD hb) hs
  have HRn := hid fun (W : World) (hb : Below w.heap.size w W) => rnames_any (Off O) (.slice p D.L.length c) D.L D.rooms D.left W (h.below hb) (by have := hs.len; omega)
  have HSm := hid hs
  have HNms := hid (M.nms hD)
  have HGt := hid fun (W : World) (hb : Below w.heap.size w W) (n : Nm) (hn : n.length ≤ 140737488351232) => M.get b O D n W (M.below hD hb) hs hn
  have HIt := hid h
  have HSr := hid (M.srt hD)
  have hlen : D.L.length ≤ 100000 := hs.len
  have hnl : (namesL D.L).length = D.L.length := by simp [namesL]
  clear M hD h hs
  generalize D.rooms = rr at *
  generalize D.left = kk at *
  go_enter Tryd.func11, Tryd.ntmps11
  go_wp2_with fail
  refine HRm.out.mono ?_; rintro e w1 ⟨rfl, hb1⟩
  have hsz0 : w.heap.size + 1 ≤ w1.heap.size := by have := hb1.out.size; simp at this; omega
  have Hrow := hid ((hb1.out.block w.heap.size (by simp)).trans H0.out)
  obtain ⟨⟨y0, y1, y2⟩, -⟩ := rd_facts Hrow.out
  have HB1 := hid (HB0.out.trans (hb1.out.mono HB0.out.size))
  have HB1d := hid HB1.out.drew
  clear hb1
  have HS := hid fun (W : World) (P Q : Nat → Prop) (v u : Value) (h1 : Tl P W v (namesL D.L)) (h2 : Tl Q W u (namesL D.L)) => same_any P Q v u (namesL D.L) (namesL D.L) W h1 h2 (by rw [hnl]; have := HSm.out.len; omega)
  rw [show decide (namesL D.L = namesL D.L) = true by simp] at HS
  go_wp2_with fail
  go_region_law (first
    | (go_simp; go_at_call 18; refine (HLn.out _ HB1d.out).mono ?_; rintro e w2 ⟨rfl, hh⟩; have HB2 := hid (HB1d.out.trans (hh.out.mono HB1d.out.size)); have hsz2 : w.heap.size + 1 ≤ w2.heap.size := Nat.le_trans hsz0 hh.out.size; have Hrow2 := hid ((hh.out.block w.heap.size (Nat.lt_of_lt_of_le (Nat.lt_succ_self _) hsz0)).trans Hrow.out); obtain ⟨⟨u0, u1, u2⟩, -⟩ := rd_facts Hrow2.out; clear hh)
    | (go_simp; go_at_call 17; refine (HNm.out _ (by first | exact HBR.out | exact HB2.out)).mono ?_; rintro e wN ⟨qN, dN, rfl, hh⟩; have HTN := hid hh.out.1; have HbN := hid hh.out.2; have HBN : Hid (Below w.heap.size w wN) := by { first | exact HBR.out.trans (hh.out.2.mono HBR.out.size) | exact HB2.out.trans (hh.out.2.mono HB2.out.size) }; have HrowN : Hid (wN.heap[w.heap.size]? = some (.cells #[.slice p D.L.length c, .int .i64 rr, .int .i64 kk] 26 (0, 0))) := by { first | exact (hh.out.2.block w.heap.size (Array.getElem?_eq_some_iff.1 HrowR.out).1).trans HrowR.out | exact (hh.out.2.block w.heap.size (Array.getElem?_eq_some_iff.1 Hrow2.out).1).trans Hrow2.out }; obtain ⟨⟨n0, n1, n2⟩, -⟩ := rd_facts HrowN.out; clear hh)
    | (go_simp; go_at_call 30; refine (HRn.out _ (by first | exact HBN.out | exact HB2.out)).mono ?_; rintro e wR ⟨qR, dR, rfl, hh⟩; have HTR := hid hh.out.1; have HbR := hid hh.out.2; have HBR : Hid (Below w.heap.size w wR) := by { first | exact HBN.out.trans (hh.out.2.mono HBN.out.size) | exact HB2.out.trans (hh.out.2.mono HB2.out.size) }; have HrowR : Hid (wR.heap[w.heap.size]? = some (.cells #[.slice p D.L.length c, .int .i64 rr, .int .i64 kk] 26 (0, 0))) := by { first | exact (hh.out.2.block w.heap.size (Array.getElem?_eq_some_iff.1 HrowN.out).1).trans HrowN.out | exact (hh.out.2.block w.heap.size (Array.getElem?_eq_some_iff.1 Hrow2.out).1).trans Hrow2.out }; obtain ⟨⟨r0, r1, r2⟩, -⟩ := rd_facts HrowR.out; clear hh)
    | (go_simp; go_at_call 16; first | (refine (HS.out _ _ _ _ _ (HTN.out.below HbR.out) HTR.out).mono ?_; rintro e w5 ⟨rfl, hh⟩; have HB5 := hid (HBR.out.trans (hh.out.mono HBR.out.size)); have Hrow5 := hid ((hh.out.block w.heap.size (Array.getElem?_eq_some_iff.1 HrowR.out).1).trans HrowR.out); clear hh) | (refine (HS.out _ _ _ _ _ HTN.out (HTR.out.below HbN.out)).mono ?_; rintro e w5 ⟨rfl, hh⟩; have HB5 := hid (HBN.out.trans (hh.out.mono HBN.out.size)); have Hrow5 := hid ((hh.out.block w.heap.size (Array.getElem?_eq_some_iff.1 HrowN.out).1).trans HrowN.out); clear hh)))
  all_goals
    obtain ⟨⟨z0, z1, z2⟩, -⟩ := rd_facts Hrow5.out
    go_wp2_with fail
    go_loopw [8, 9, 10, 45] (fun _ _ _ v45 W => ∃ i : Nat, v45 = .int .i64 i ∧ i ≤ D.L.length ∧ Hid (Below w.heap.size w W)) (fun _ _ _ v45 _ => D.L.length - (intOf v45).toNat)
    case atStart => exact ⟨0, rfl, Nat.zero_le _, HB5.out⟩
    case round =>
      obtain ⟨i, rfl, hi, HW⟩ := hrel
      by_cases hlt : i < D.L.length
      · have hlz : (i : Int) < (D.L.length : Int) := by omega
        obtain ⟨g, o, rfl, hg, -, hc⟩ := (HIt.out.below HW.out).cells i hlt
        obtain ⟨x0, x1⟩ := hc i hlt
        have hget : getL D.L[i].1 D.L = some D.L[i].2 := (getL_mem HSr.out).2 (List.getElem_mem hlt)
        have HB6 := hid (HW.out.trans ((below_alloc wr (.cells #[txt D.L[i].1, .int .i64 D.L[i].2] 64)).mono HW.out.size))
        have HX := hid (heap_alloc_new wr (.cells #[txt D.L[i].1, .int .i64 D.L[i].2] 64))
        have HG := hid (HGt.out _ HB6.out D.L[i].1 (HNms.out _ (List.getElem_mem hlt)))
        rw [hget] at HG
        simp only [Option.getD_some, Option.isSome_some] at HG
        generalize D.L[i] = it at *
        obtain ⟨nm, yy⟩ := it
        simp only at x0 x1 HG HB6 HX
        clear hc hget
        go_wp2_with fail
        refine HG.out.mono ?_; rintro e w7 ⟨rfl, hh⟩
        have HB7 := hid (HB6.out.trans (hh.out.mono HB6.out.size))
        have k1 : w7.cell? ⟨wr.heap.size, 1, none⟩ = some (.int .i64 yy) := cell_of_row w7 _ 1 _ _ _ ((hh.out.block wr.heap.size (by simp)).trans HX.out)
        clear hh
        go_wp2_with fail
        exact ⟨⟨i + 1, by go_num, by omega, HB7.out⟩, by simp [intOf]; omega⟩
      · go_wp2_with fail
        go_ret
        exact ⟨rfl, HW.out⟩

end Go.Proofs.YtphegggekcjenaaDoor
