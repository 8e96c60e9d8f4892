/- YE. -/
import Derived.Test.YtcbncdigejjcpaaGreatDoorM46
import Derived.Test.YtcbncdigejjcpaaGreatDoorM15
namespace Go.Proofs.YtcbncdigejjcpaaGreatDoor.Ex
open Re (Rep)
open Go.RowKit

theorem wrap_in {n : Int} (h0 : -9223372036854775808 ≤ n) (h1 : n ≤ 9223372036854775807) : IntKind.i64.wrap n = n := by
  rw [IntKind.wrap_i64]
  omega
theorem got_is {L : List EP} {k : Nm} {y : E8} (h : pr8 y = (getL k L).getD ([], zeroV, 0)) : y.m = valOf L k ∧ y.ends = endOf L k ∧ (isIn L k = true → y.key = k) := by
  unfold valOf endOf isIn
  cases hg : getL k L with
  | none =>
    rw [hg] at h
    exact ⟨congrArg (fun e => e.2.1) h, congrArg (fun e => e.2.2) h, (fun h => by cases h)⟩
  | some x =>
    rw [hg] at h
    exact ⟨congrArg (fun e => e.2.1) h, congrArg (fun e => e.2.2) h, fun _ => (congrArg (fun e => e.1) h).trans (get_key hg)⟩
theorem end_in {B : Nat} {w : World} {b : Nat} {O A : Nat → Prop} {L : List EP} {room now : Int} (h : Sp B w b O A L room now) (k : Nm) : 0 ≤ endOf L k ∧ endOf L k ≤ 1099511627776 ∧ (endOf L k = 0 ∨ now < endOf L k) := by
  unfold endOf
  cases hg : getL k L with
  | none => exact ⟨by decide, by decide, .inl rfl⟩
  | some x =>
    have hm := List.mem_of_find?_eq_some hg
    have := h.fine.good x hm
    exact ⟨this.2.2.1, this.2.2.2, h.fine.live x hm⟩
set_option maxHeartbeats 8000000 in
set_option maxRecDepth 100000 in
theorem a41 (k : Nm) : Ans 51 cTTL [k] (fun _ now L => (L, wholeR (if isIn L k = false then -2 else if endOf L k = 0 then -1 else endOf L k - now))) := by
  intro B w b O A L room now hS p c hR hT hlen hO
  dsimp only
  obtain ⟨g, o, rfl, hc⟩ := hR.strs (List.cons_ne_nil _ _)
  have h0 : w.cell? ⟨g, o, none⟩ = some (txt k) := hc 0 (by simp)
  have H0 := hid h0
  have hl0 : k.length ≤ 140737488351232 := hT k (by simp)
  have hgl := block_lt_of_cell h0
  have hcap : 1 ≤ c := hR.cap
  have HS := hid hS
  have HA := hid (al_two w (cob b cTTL (some ⟨g, o, none⟩) 1 c) rob0)
  have HTb := hid (tab_of hS)
  have k0 := cell_turn h0 (HA.out.1.block g hgl)
  clear h0 hc
  clear hS hR hT hO hlen
  obtain ⟨R, hRR⟩ : ∃ R, R = wholeR (if isIn L k = false then -2 else if endOf L k = 0 then -1 else endOf L k - now) := ⟨_, rfl⟩
  rw [← hRR]
  have HRR := hid hRR
  have hen := end_in HS.out k
  have hnw := HS.out.fine.now
  clear hRR
  go_enter Tryz.func51, Tryz.ntmps51
  go_wp2_with fail
  have HB0 := hid HA.out.1
  have hs0 : w.heap.size + 2 ≤ ((w.alloc (cob b cTTL (some ⟨g, o, none⟩) 1 c)).alloc rob0).heap.size := Nat.le_of_eq HA.out.2.2.2.symm
  have HC0 := hid HA.out.2.1
  have HZ0 := hid HA.out.2.2.1
  clear k0
  generalize ((w.alloc (cob b cTTL (some ⟨g, o, none⟩) 1 c)).alloc rob0) = w0 at HB0 hs0 HC0 HZ0 ⊢
  clear HA
  obtain ⟨x0, x1, x2⟩ := call_facts HC0.out
  have k0 := cell_turn H0.out (HB0.out.block g hgl)
  have HK := hid (fun W h => key_any b cTTL g o 1 c k W (by omega) h)
  have HG := hid (fun (W : World) (hb : Below w.heap.size w W) => sp_get (HS.out.below hb) k hl0)
  have kd : w0.drew.cell? ⟨g, o, none⟩ = some (txt k) := k0
  have ka : (w0.alloc eob0).drew.cell? ⟨g, o, none⟩ = some (txt k) := cell_turn kd ((below_alloc w0 eob0).block g (Nat.lt_of_lt_of_le hgl HB0.out.size))
  have HBd : Hid (Below w.heap.size w w0.drew) := HB0.out.drew
  have HXa : Hid (Below w0.heap.size w0 (w0.alloc eob0).drew) := (below_alloc w0 eob0).drew
  have HBa : Hid (Below w.heap.size w (w0.alloc eob0).drew) := HB0.out.trans (HXa.out.mono HB0.out.size)
  obtain ⟨v0, v1, v2⟩ := call_facts ((HXa.out.block w.heap.size (by omega)).trans HC0.out)
  have HEa : Hid ((w0.alloc eob0).drew.heap[w0.heap.size]? = some eob0) := heap_alloc_new w0 eob0
  have hsa : (w0.alloc eob0).drew.heap.size = w0.heap.size + 1 := by show (w0.alloc eob0).heap.size = _; simp
  go_cut [3, 4] (fun c3 c4 wx => ∃ (eb : Nat) (y : E8), c3 = pt eb ∧ c4 = .bool (isIn L k) ∧ w.heap.size + 2 ≤ eb ∧ Hid (Got w wx b cTTL (some ⟨g, o, none⟩) 1 c eb y L k))
  case first =>
    go_region_law
      (first
        | (go_simp; go_at_call 124; (with_reducible refine (HK.out _ kd).mono ?_); rintro e w1 ⟨rfl, hb1⟩; have HB1 := hid (HBd.out.trans (hb1.out.mono HBd.out.size)); have hs1 : w.heap.size + 2 ≤ w1.heap.size := Nat.le_trans hs0 hb1.out.size; have HC1 := hid ((hb1.out.block w.heap.size (show w.heap.size < w0.heap.size by omega)).trans HC0.out); have HZ1 := hid ((hb1.out.block (w.heap.size + 1) (show w.heap.size + 1 < w0.heap.size by omega)).trans HZ0.out); obtain ⟨y0, y1, y2⟩ := call_facts HC1.out; have HX1 := hid (below_alloc w1 eob0); have HE1 := hid (heap_alloc_new w1 eob0); have HBx := hid (HB1.out.trans (HX1.out.mono HB1.out.size)); obtain ⟨y3, y4, y5⟩ := call_facts ((HX1.out.block w.heap.size (by omega)).trans HC1.out))
        | (go_simp; go_at_call 124; (with_reducible refine (HK.out _ ka).mono ?_); rintro e w1 ⟨rfl, hb1⟩; have HB1 := hid (HBa.out.trans (hb1.out.mono HBa.out.size)); have hs1 : w0.heap.size + 1 ≤ w1.heap.size := (by have := hb1.out.size; omega); have HC1 := hid ((hb1.out.block w.heap.size (by omega)).trans ((HXa.out.block w.heap.size (show w.heap.size < w0.heap.size by omega)).trans HC0.out)); have HZ1 := hid ((hb1.out.block (w.heap.size + 1) (by omega)).trans ((HXa.out.block (w.heap.size + 1) (show w.heap.size + 1 < w0.heap.size by omega)).trans HZ0.out)); have HEe := hid ((hb1.out.block w0.heap.size (by omega)).trans HEa.out); obtain ⟨y0, y1, y2⟩ := call_facts HC1.out)
        | (go_simp; go_at_call 18; have _q := HEe.out; (with_reducible refine (HG.out _ HB1.out).mono ?_); rintro e w2 ⟨y, rfl, hh⟩; obtain ⟨d0, d1, d2, d3, d4, d5, d6, d7⟩ := ent_facts ((hh.out.2.2.block w0.heap.size (by omega)).trans HEe.out); obtain ⟨f0, f1, f2, f3, f4, f5, f6, f7⟩ := ent_frozen ((hh.out.2.2.block w0.heap.size (by omega)).trans HEe.out))
        | (go_simp; go_at_call 18; (with_reducible refine (HG.out _ HB1.out).mono ?_); rintro e w2 ⟨y, rfl, hh⟩)
        | (go_simp; go_at_call 18; (with_reducible refine (HG.out _ HBx.out).mono ?_); rintro e w2 ⟨y, rfl, hh⟩; obtain ⟨d0, d1, d2, d3, d4, d5, d6, d7⟩ := ent_facts ((hh.out.2.2.block w1.heap.size (by simp)).trans HE1.out); obtain ⟨f0, f1, f2, f3, f4, f5, f6, f7⟩ := ent_frozen ((hh.out.2.2.block w1.heap.size (by simp)).trans HE1.out)))
    all_goals
      go_wp2_with fail
      go_meet
      first
        | (have _q := HEe.out; exact ⟨w0.heap.size, y, rfl, rfl, hs0, got_old HB1.out hs0 (by omega) HC1.out HZ1.out HEe.out hh.out.1 hh.out.2.1 hh.out.2.2⟩)
        | (have _q := f0; exact ⟨w1.heap.size, y, rfl, rfl, hs1, got_old HBx.out hs1 (by simp) ((HX1.out.block w.heap.size (by omega)).trans HC1.out) ((HX1.out.block (w.heap.size + 1) (by omega)).trans HZ1.out) HE1.out hh.out.1 hh.out.2.1 hh.out.2.2⟩)
        | exact ⟨w2.heap.size, y, rfl, rfl, Nat.le_trans hs1 hh.out.2.2.size, got_new HB1.out hs1 HC1.out HZ1.out hh.out.1 hh.out.2.1 hh.out.2.2⟩
  case rest =>
  obtain ⟨eb, y, rfl, rfl, heb, HGt⟩ := hcut
  have HB9 := hid HGt.out.hb
  have HC9 := hid HGt.out.hc
  have HZ9 := hid HGt.out.hz
  have HE9 := hid HGt.out.he
  have hsz9 : eb < wc.heap.size := (Array.getElem?_eq_some_iff.1 HE9.out).1
  have hs9 : w.heap.size + 2 ≤ wc.heap.size := by omega
  clear HK HG kd ka HBd HBa HXa HEa hsa v0 v1 v2
  generalize wc = w9 at HGt HB9 HC9 HZ9 HE9 hsz9 hs9 ⊢
  obtain ⟨e0, e1, e2, e3, e4, e5, e6, e7⟩ := ent_facts HE9.out
  obtain ⟨-, hye, -⟩ := got_is HGt.out.pr
  rw [hye] at e7
  clear hye e0 e1 e2 e3 e4 e5 e6 x0 x1 x2 k0
  obtain ⟨x0, x1, x2⟩ := call_facts HC9.out
  have HNN := hid (fun n => number_any n w9)
  generalize endOf L k = E at *
  cases his : isIn L k
  · obtain rfl : R = wholeR (-2) := by rw [HRR.out, his, if_pos rfl]
    replace HNN := hid (HNN.out (-2))
    go_wp2_with fail
    refine HNN.out.mono ?_; rintro e w10 ⟨rfl, hb⟩
    have HB10 := hid (HB9.out.trans (hb.out.mono HB9.out.size))
    have HZ10 := hid ((hb.out.block (w.heap.size + 1) (by omega)).trans HZ9.out)
    clear hb
    go_wp2_with (refine wpList_store_row rfl 32 _ _ rfl (w.heap.size + 1) #[.int .i64 (wholeR (-2)).kind, .int .i64 (wholeR (-2)).int, txt (wholeR (-2)).text, .slice none (wholeR (-2)).list.length 0] rfl rfl 32 _ HZ10.out (Re.infoRep _ _ _ _) rfl (one_r _ _ _) ?_)
    refine bodyPost_ret (v := rval (wholeR (-2)) none 0) ?_ rfl ?_
    · exact Re.ret_rep1 rfl rfl (setRow_heap w10 _ _ _ _ _ HZ10.out)
    · exact ⟨none, 0, rfl, Post.quiet HS.out (Re.below_setRow HB10.out (by omega) _) (rp_flat (fit_num (by decide)).1 (fit_num (by decide)).2) (fun _ h => h)⟩
  · by_cases hE : E = 0
    · obtain rfl : R = wholeR (-1) := by rw [HRR.out, his, if_neg (by decide), if_pos hE]
      replace HNN := hid (HNN.out (-1))
      subst hE
      go_wp2_with fail
      refine HNN.out.mono ?_; rintro e w10 ⟨rfl, hb⟩
      have HB10 := hid (HB9.out.trans (hb.out.mono HB9.out.size))
      have HZ10 := hid ((hb.out.block (w.heap.size + 1) (by omega)).trans HZ9.out)
      clear hb
      go_wp2_with (refine wpList_store_row rfl 32 _ _ rfl (w.heap.size + 1) #[.int .i64 (wholeR (-1)).kind, .int .i64 (wholeR (-1)).int, txt (wholeR (-1)).text, .slice none (wholeR (-1)).list.length 0] rfl rfl 32 _ HZ10.out (Re.infoRep _ _ _ _) rfl (one_r _ _ _) ?_)
      refine bodyPost_ret (v := rval (wholeR (-1)) none 0) ?_ rfl ?_
      · exact Re.ret_rep1 rfl rfl (setRow_heap w10 _ _ _ _ _ HZ10.out)
      · exact ⟨none, 0, rfl, Post.quiet HS.out (Re.below_setRow HB10.out (by omega) _) (rp_flat (fit_num (by decide)).1 (fit_num (by decide)).2) (fun _ h => h)⟩
    · obtain rfl : R = wholeR (E - now) := by rw [HRR.out, his, if_neg (by decide), if_neg hE]
      have hEb : (E == 0) = false := beq_eq_false_iff_ne.2 hE
      have HNow : Hid (Calls Tryz.prog 128 #[pt b] w9.drew fun e w' => e = .returned (.int .i64 now) ∧ Hid (Below w9.drew.heap.size w9.drew w')) := sp_now ((HS.out.below HB9.out).below (Below.refl _ _).drew)
      have hEn : -9223372036854775808 ≤ E - now ∧ E - now ≤ 9223372036854775807 := by omega
      have hwr : IntKind.i64.wrap (E - now) = E - now := wrap_in hEn.1 hEn.2
      clear hE
      go_wp2_with fail
      go_region_law
        (first
          | (go_simp; go_at_call 128; (with_reducible refine HNow.out.mono ?_); rintro e w10 ⟨rfl, hb⟩; have HB10 := hid (HB9.out.drew.trans (hb.out.mono HB9.out.size)); have hs10 : w.heap.size + 2 ≤ w10.heap.size := Nat.le_trans hs9 hb.out.size; have HZ10 := hid ((hb.out.block (w.heap.size + 1) (show _ < w9.heap.size by omega)).trans HZ9.out); have c7 := cell_turn e7 (hb.out.block eb hsz9); have HNN10 := hid (number_any (E - now) w10); clear hb)
          | (go_simp; go_at_call 72; (with_reducible refine HNN10.out.mono ?_); rintro e w11 ⟨rfl, hb⟩; have HB11 := hid (HB10.out.trans (hb.out.mono HB10.out.size)); have HZ11 := hid ((hb.out.block (w.heap.size + 1) (by omega)).trans HZ10.out); obtain ⟨z0, z1, z2, z3⟩ := rep_facts HZ11.out; obtain ⟨f0, f1, f2, f3⟩ := rep_frozen HZ11.out; clear hb))
      all_goals
        go_wp2_with fail
        refine bodyPost_ret (v := rval (wholeR (E - now)) none 0) ?_ rfl ?_
        · exact Re.ret_rep1 rfl rfl (set4_same _ _ _ _ HZ11.out)
        · have hk := set4_keep w11 (w.heap.size + 1) (.int .i64 (wholeR (E - now)).kind) (.int .i64 (wholeR (E - now)).int) (txt (wholeR (E - now)).text) (.slice none (wholeR (E - now)).list.length 0)
          exact ⟨none, 0, rfl, Post.quiet HS.out (keep_one HB11.out hk (by omega) HB11.out.size) (rp_flat (fit_num hEn).1 (fit_num hEn).2) (fun _ h => h)⟩

end Go.Proofs.YtcbncdigejjcpaaGreatDoor.Ex
