/- YG. -/
import Derived.Test.YtcbncdigejjcpaaGreatDoorM49
import Derived.Test.YtcbncdigejjcpaaGreatDoorM47
namespace Go.Proofs.YtcbncdigejjcpaaGreatDoor.Ex
open Re (Rep)
open Go.RowKit

theorem got_came {B : Nat} {w : World} {b : Nat} {O A : Nat → Prop} {L : List EP} {room now : Int} (h : Sp B w b O A L room now) (k : Nm) : Came (valOf L k) ∧ (valOf L k).pairs.length * 32 ≤ 140737488351232 ∧ (valOf L k).items.length * 16 ≤ 140737488351232 := by
  unfold valOf
  cases hg : getL k L with
  | none => exact ⟨⟨Nat.zero_le _, Nat.zero_le _, Nat.zero_le _, (fun x hx => by cases hx), (fun x hx => by cases hx), (fun x hx => by cases hx), (by show In64 0; decide), (by show In64 0; decide), (by show In64 0; decide)⟩, by decide, by decide⟩
  | some x =>
    have hR := (h.fine.good x (List.mem_of_find?_eq_some hg)).2.1
    refine ⟨rt_came hR, ?_, ?_⟩
    · by_cases h2 : x.2.1.kind = 2
      · have := (hR.k2 h2).1.2.2; rw [List.length_map] at this; show x.2.1.pairs.length * 32 ≤ _; omega
      · show x.2.1.pairs.length * 32 ≤ _; rw [hR.pairs h2]; decide
    · by_cases h3 : x.2.1.kind = 3
      · have := (hR.k3 h3).2.2; show x.2.1.items.length * 16 ≤ _; omega
      · by_cases h4 : x.2.1.kind = 4
        · have := (hR.k4 h4).1.2.2; show x.2.1.items.length * 16 ≤ _; omega
        · show x.2.1.items.length * 16 ≤ _; rw [hR.items h3 h4]; decide
set_option maxHeartbeats 8000000 in
set_option maxRecDepth 100000 in
theorem a40i (k a : Nm) : Ans 126 cEXPIRE [k, a] (fun room now L => (if Num.tellE a ≠ 0 then (L, fault fNumber) else if isIn L k = false then (L, wholeR 0) else if min (Num.tellV a) (1099511627776 - now) < 1 then (delL k L, wholeR 1) else (putLL L room now (k, valOf L k, now + min (Num.tellV a) (1099511627776 - now)), putR L room now (k, valOf L k, now + min (Num.tellV a) (1099511627776 - now)) (wholeR 1)))) := by
  intro B w b O A L room now hS p c hR hT hlen hO
  dsimp only
  obtain ⟨g, o, rfl, hc⟩ := hR.strs (List.cons_ne_nil _ _)
  have h0 : w.cell? ⟨g, o, none⟩ = some (txt k) := hc 0 (by simp)
  have H0 := hid h0
  have hl0 : k.length ≤ 140737488351232 := hT k (by simp)
  have h1 : w.cell? ⟨g, o + 1, none⟩ = some (txt a) := hc 1 (by simp)
  have H1 := hid h1
  have hl1 : a.length ≤ 140737488351232 := hT a (by simp)
  have hgl := block_lt_of_cell h0
  have hcap : 2 ≤ c := hR.cap
  have HS := hid hS
  have HA := hid (al_two w (cob b cEXPIRE (some ⟨g, o, none⟩) 2 c) rob0)
  have HTb := hid (tab_of hS)
  have k0 := cell_turn h0 (HA.out.1.block g hgl)
  have k1 := cell_turn h1 (HA.out.1.block g hgl)
  clear h0 h1 hc
  clear hS hR hT hO hlen
  obtain ⟨C, hC⟩ : ∃ C, C = (if Num.tellE a ≠ 0 then (L, fault fNumber) else if isIn L k = false then (L, wholeR 0) else if min (Num.tellV a) (1099511627776 - now) < 1 then (delL k L, wholeR 1) else (putLL L room now (k, valOf L k, now + min (Num.tellV a) (1099511627776 - now)), putR L room now (k, valOf L k, now + min (Num.tellV a) (1099511627776 - now)) (wholeR 1))) := ⟨_, rfl⟩
  rw [← hC]
  have hva := tell_in a
  obtain ⟨V, hV⟩ : ∃ V, V = Num.tellV a := ⟨_, rfl⟩
  obtain ⟨E, hE⟩ : ∃ E, E = Num.tellE a := ⟨_, rfl⟩
  have HNa := hid (fun W => Num.parse_any a W)
  have HCC := hid hC
  rw [← hV, ← hE] at HNa HCC
  rw [← hV] at hva
  have hen := end_in HS.out k
  have hnw := HS.out.fine.now
  have hcm := got_came HS.out k
  clear hC hV hE
  go_enter Tryz.func126, Tryz.ntmps126
  go_wp2_with fail
  have HB0 := hid HA.out.1
  have hs0 : w.heap.size + 2 ≤ ((w.alloc (cob b cEXPIRE (some ⟨g, o, none⟩) 2 c)).alloc rob0).heap.size := Nat.le_of_eq HA.out.2.2.2.symm
  have HC0 := hid HA.out.2.1
  have HZ0 := hid HA.out.2.2.1
  clear k0 k1
  generalize ((w.alloc (cob b cEXPIRE (some ⟨g, o, none⟩) 2 c)).alloc rob0) = w0 at HB0 hs0 HC0 HZ0 ⊢
  clear HA
  refine (HNa.out w0).mono ?_; rintro e w1 ⟨rfl, hb⟩
  have HB1 := hid (HB0.out.trans (hb.out.mono HB0.out.size))
  have hs1 : w.heap.size + 2 ≤ w1.heap.size := Nat.le_trans hs0 hb.out.size
  have HZ1 := hid ((hb.out.block (w.heap.size + 1) (by omega)).trans HZ0.out)
  have HC1 := hid ((hb.out.block w.heap.size (by omega)).trans HC0.out)
  clear hb
  obtain ⟨x0, x1, x2⟩ := call_facts HC1.out
  have k0 := cell_turn H0.out (HB1.out.block g hgl)
  have k1 := cell_turn H1.out (HB1.out.block g hgl)
  by_cases hE : E = 0
  · subst hE
    replace HCC := hid (HCC.out.trans (if_neg (by simp)))
    go_wp2_with fail
    have HBW := hid HB1.out
    have HCW := hid HC1.out
    have HZW := hid HZ1.out
    have hsW := hs1
    clear HB1 HC1 HZ1 hs1
    generalize w1 = W1 at *
    have HK := hid (fun W h => key_any b cEXPIRE g o 2 c k W (by omega) h)
    have HG := hid (fun (W : World) (hb : Below w.heap.size w W) => sp_get (HS.out.below hb) k hl0)
    have kd : W1.drew.cell? ⟨g, o, none⟩ = some (txt k) := k0
    have ka : (W1.alloc eob0).drew.cell? ⟨g, o, none⟩ = some (txt k) := cell_turn kd ((below_alloc W1 eob0).block g (Nat.lt_of_lt_of_le hgl HBW.out.size))
    have HBd : Hid (Below w.heap.size w W1.drew) := HBW.out.drew
    have HXa : Hid (Below W1.heap.size W1 (W1.alloc eob0).drew) := (below_alloc W1 eob0).drew
    have HBa : Hid (Below w.heap.size w (W1.alloc eob0).drew) := HBW.out.trans (HXa.out.mono HBW.out.size)
    obtain ⟨v0, v1, v2⟩ := call_facts ((HXa.out.block w.heap.size (by omega)).trans HCW.out)
    have HEa : Hid ((W1.alloc eob0).drew.heap[W1.heap.size]? = some eob0) := heap_alloc_new W1 eob0
    have hsa : (W1.alloc eob0).drew.heap.size = W1.heap.size + 1 := by show (W1.alloc eob0).heap.size = _; simp
    go_cut [5, 6] (fun c5 c6 wx => ∃ (eb : Nat) (y : E8), c5 = pt eb ∧ c6 = .bool (isIn L k) ∧ w.heap.size + 2 ≤ eb ∧ Hid (Got w wx b cEXPIRE (some ⟨g, o, none⟩) 2 c eb y L k))
    case first =>
      go_region_law
        (first
          | (go_simp; go_at_call 124; (with_reducible refine (HK.out _ kd).mono ?_); rintro e w1 ⟨rfl, hb1⟩; have HB1 := hid (HBd.out.trans (hb1.out.mono HBd.out.size)); have hs1 : w.heap.size + 2 ≤ w1.heap.size := Nat.le_trans hsW hb1.out.size; have HC1 := hid ((hb1.out.block w.heap.size (show w.heap.size < W1.heap.size by omega)).trans HCW.out); have HZ1 := hid ((hb1.out.block (w.heap.size + 1) (show w.heap.size + 1 < W1.heap.size by omega)).trans HZW.out); obtain ⟨y0, y1, y2⟩ := call_facts HC1.out; have HX1 := hid (below_alloc w1 eob0); have HE1 := hid (heap_alloc_new w1 eob0); have HBx := hid (HB1.out.trans (HX1.out.mono HB1.out.size)); obtain ⟨y3, y4, y5⟩ := call_facts ((HX1.out.block w.heap.size (by omega)).trans HC1.out))
          | (go_simp; go_at_call 124; (with_reducible refine (HK.out _ ka).mono ?_); rintro e w1 ⟨rfl, hb1⟩; have HB1 := hid (HBa.out.trans (hb1.out.mono HBa.out.size)); have hs1 : W1.heap.size + 1 ≤ w1.heap.size := (by have := hb1.out.size; omega); have HC1 := hid ((hb1.out.block w.heap.size (by omega)).trans ((HXa.out.block w.heap.size (show w.heap.size < W1.heap.size by omega)).trans HCW.out)); have HZ1 := hid ((hb1.out.block (w.heap.size + 1) (by omega)).trans ((HXa.out.block (w.heap.size + 1) (show w.heap.size + 1 < W1.heap.size by omega)).trans HZW.out)); have HEe := hid ((hb1.out.block W1.heap.size (by omega)).trans HEa.out); obtain ⟨y0, y1, y2⟩ := call_facts HC1.out)
          | (go_simp; go_at_call 18; have _q := HEe.out; (with_reducible refine (HG.out _ HB1.out).mono ?_); rintro e w2 ⟨y, rfl, hh⟩; obtain ⟨d0, d1, d2, d3, d4, d5, d6, d7⟩ := ent_facts ((hh.out.2.2.block W1.heap.size (by omega)).trans HEe.out); obtain ⟨f0, f1, f2, f3, f4, f5, f6, f7⟩ := ent_frozen ((hh.out.2.2.block W1.heap.size (by omega)).trans HEe.out))
          | (go_simp; go_at_call 18; (with_reducible refine (HG.out _ HB1.out).mono ?_); rintro e w2 ⟨y, rfl, hh⟩)
          | (go_simp; go_at_call 18; (with_reducible refine (HG.out _ HBx.out).mono ?_); rintro e w2 ⟨y, rfl, hh⟩; obtain ⟨d0, d1, d2, d3, d4, d5, d6, d7⟩ := ent_facts ((hh.out.2.2.block w1.heap.size (by simp)).trans HE1.out); obtain ⟨f0, f1, f2, f3, f4, f5, f6, f7⟩ := ent_frozen ((hh.out.2.2.block w1.heap.size (by simp)).trans HE1.out)))
      all_goals
        go_wp2_with fail
        go_meet
        first
          | (have _q := HEe.out; exact ⟨W1.heap.size, y, rfl, rfl, hsW, got_old HB1.out hsW (by omega) HC1.out HZ1.out HEe.out hh.out.1 hh.out.2.1 hh.out.2.2⟩)
          | (have _q := f0; exact ⟨w1.heap.size, y, rfl, rfl, hs1, got_old HBx.out hs1 (by simp) ((HX1.out.block w.heap.size (by omega)).trans HC1.out) ((HX1.out.block (w.heap.size + 1) (by omega)).trans HZ1.out) HE1.out hh.out.1 hh.out.2.1 hh.out.2.2⟩)
          | exact ⟨w2.heap.size, y, rfl, rfl, Nat.le_trans hs1 hh.out.2.2.size, got_new HB1.out hs1 HC1.out HZ1.out hh.out.1 hh.out.2.1 hh.out.2.2⟩
    case rest =>
    obtain ⟨eb, y, rfl, rfl, heb, HGt⟩ := hcut
    have HB9 := hid HGt.out.hb
    have HC9 := hid HGt.out.hc
    have HZ9 := hid HGt.out.hz
    have HE9 := hid HGt.out.he
    have hsz9 : eb < wc.heap.size := (Array.getElem?_eq_some_iff.1 HE9.out).1
    have hs9 : w.heap.size + 2 ≤ wc.heap.size := by omega
    clear HK HG kd ka HBd HBa HXa HEa hsa v0 v1 v2
    generalize wc = w9 at HGt HB9 HC9 HZ9 HE9 hsz9 hs9 ⊢
    obtain ⟨e0, e1, e2, e3, e4, e5, e6, e7⟩ := ent_facts HE9.out
    obtain ⟨hym, hye, hyk⟩ := got_is HGt.out.pr
    clear e0 e1 e2 e3 e4 e5 e6 e7 x0 x1 x2 k0 k1
    obtain ⟨x0, x1, x2⟩ := call_facts HC9.out
    have HOy := hid HGt.out.own
    have HYM := hid hym
    have HYK := hid hyk
    clear hym hye hyk HGt
    cases his : isIn L k
    · obtain rfl : C = (L, wholeR 0) := by rw [HCC.out, his, if_pos rfl]
      have HNN := hid (number_any 0 w9)
      go_wp2_with fail
      refine HNN.out.mono ?_; rintro e w10 ⟨rfl, hb⟩
      have HB10 := hid (HB9.out.trans (hb.out.mono HB9.out.size))
      have HZ10 := hid ((hb.out.block (w.heap.size + 1) (by omega)).trans HZ9.out)
      clear hb
      go_wp2_with (refine wpList_store_row rfl 32 _ _ rfl (w.heap.size + 1) #[.int .i64 (wholeR 0).kind, .int .i64 (wholeR 0).int, txt (wholeR 0).text, .slice none (wholeR 0).list.length 0] rfl rfl 32 _ HZ10.out (Re.infoRep _ _ _ _) rfl (one_r _ _ _) ?_)
      refine bodyPost_ret (v := rval (wholeR 0) none 0) ?_ rfl ?_
      · exact Re.ret_rep1 rfl rfl (setRow_heap w10 _ _ _ _ _ HZ10.out)
      · exact ⟨none, 0, rfl, Post.quiet HS.out (Re.below_setRow HB10.out (by omega) _) (rp_flat (fit_num (by decide)).1 (fit_num (by decide)).2) (fun _ h => h)⟩
    · rw [his] at HYK
      have hyk : y.key = k := HYK.out rfl
      have HNow := hid (sp_now (HS.out.below HB9.out))
      go_wp2_with fail
      refine HNow.out.mono ?_; rintro e w10 ⟨rfl, hb⟩
      have HB10 := hid (HB9.out.trans (hb.out.mono HB9.out.size))
      have hs10 : w.heap.size + 2 ≤ w10.heap.size := Nat.le_trans hs9 hb.out.size
      have hsz10 : eb < w10.heap.size := Nat.lt_of_lt_of_le hsz9 hb.out.size
      have HZ10 := hid ((hb.out.block (w.heap.size + 1) (by omega)).trans HZ9.out)
      have HC10 := hid ((hb.out.block w.heap.size (by omega)).trans HC9.out)
      have HE10 := hid ((hb.out.block eb hsz9).trans HE9.out)
      have HO10 := hid (HOy.out.below hb.out)
      obtain ⟨n, hn⟩ : ∃ n, n = min V (1099511627776 - now) := ⟨_, rfl⟩
      replace HCC := hid (show C = if n < 1 then (delL k L, wholeR 1) else (putLL L room now (k, valOf L k, now + n), putR L room now (k, valOf L k, now + n) (wholeR 1)) by rw [HCC.out, his, if_neg (by decide), hn])
      have hn1 : n ≤ 1099511627776 - now := by rw [hn]; exact Int.min_le_right _ _
      have hn2 : -9223372036854775808 ≤ n := by rw [hn]; have := hva.1; omega
      have hmn : min V (1099511627776 - now) = n := hn.symm
      have hsum : -9223372036854775808 ≤ now + n := by omega
      have HE11 : Hid ((w10.setCell ⟨eb, 7, none⟩ (.int .i64 (now + n))).heap[eb]? = some (.cells (⟨y.key, y.m, y.pp, y.pc, y.ip, y.ic, now + n⟩ : E8).cells 51 (0, 0))) := heap_setCell_same w10 eb 7 _ _ _ HE10.out
      have k7 := keep_cell w10 eb 7 (.int .i64 (now + n))
      have HB11 := hid (keep_one HB10.out k7 (by omega) HB10.out.size)
      have HC11 := hid ((k7.block w.heap.size (by omega) (by show w.heap.size ≠ eb; omega)).trans HC10.out)
      have HZ11 := hid ((k7.block (w.heap.size + 1) (by omega) (by show w.heap.size + 1 ≠ eb; omega)).trans HZ10.out)
      have HO11 := hid (HO10.out.other HE10.out k7)
      have hs11 : w.heap.size + 2 ≤ (w10.setCell ⟨eb, 7, none⟩ (.int .i64 (now + n))).heap.size := by simp; omega
      have hz11 : eb < (w10.setCell ⟨eb, 7, none⟩ (.int .i64 (now + n))).heap.size := by simp; omega
      clear hb x0 x1 x2 hn k7
      obtain ⟨x0, x1, x2⟩ := call_facts HC10.out
      obtain ⟨e0, e1, e2, e3, e4, e5, e6, e7⟩ := ent_facts HE10.out
      obtain ⟨f0, f1, f2, f3, f4, f5, f6, f7⟩ := ent_frozen HE10.out
      have HK := hid (fun W h => key_any b cEXPIRE g o 2 c k W (by omega) h)
      by_cases hlt : n < 1
      · have hle : now + n ≤ now := by omega
        obtain rfl : C = (delL k L, wholeR 1) := by rw [HCC.out, if_pos hlt]
        clear hlt
        go_upto_region 10 with fail
        clear x0 x1 x2 e0 e1 e2 e3 e4 e5 e6 e7 f0 f1 f2 f3 f4 f5 f6 f7
        generalize w10.setCell ⟨eb, 7, none⟩ (.int .i64 (now + n)) = w11 at HE11 HB11 HC11 HZ11 HO11 hs11 hz11 ⊢
        obtain ⟨x0, x1, x2⟩ := call_facts HC11.out
        have HD := hid (fun (W : World) (hb : Below w.heap.size w W) => sp_del (HS.out.below hb) k hl0)
        have HBd : Hid (Below w.heap.size w w11.drew) := HB11.out.drew
        have kd : w11.drew.cell? ⟨g, o, none⟩ = some (txt k) := cell_turn H0.out (HB11.out.block g hgl)
        go_wp2_with fail
        go_region_law
          (first
            | (go_simp; go_at_call 124; (with_reducible refine (HK.out _ kd).mono ?_); rintro e w81 ⟨rfl, hb⟩; have hs81 : w11.heap.size ≤ w81.heap.size := hb.out.size; have HB81 := hid (HBd.out.trans (hb.out.mono HBd.out.size)); have HC81 := hid ((hb.out.block w.heap.size (show w.heap.size < w11.heap.size by omega)).trans HC11.out); have HZ81 := hid ((hb.out.block (w.heap.size + 1) (show w.heap.size + 1 < w11.heap.size by omega)).trans HZ11.out); obtain ⟨z0, z1, z2⟩ := call_facts HC81.out; clear hb)
            | (go_simp; go_at_call 34; (with_reducible refine (HD.out _ HB81.out).mono ?_); rintro e w82 ⟨rfl, hh⟩))
        all_goals
          obtain ⟨O8, A8, h1, h2⟩ := hh.out
          have HZ82 := hid ((own_block' HS.out h2 (w.heap.size + 1) (by omega) (by omega)).trans HZ81.out)
          have HNN := hid (number_any 1 w82)
          have HH : Hid (∃ O8 A8, Sp B w82 b O8 A8 (delL k L) room now ∧ Stp w81 w82 O O8 A A8) := ⟨O8, A8, h1, h2⟩
          have hs82 : w81.heap.size ≤ w82.heap.size := h2.keep.size
          clear hh h1 h2
          go_wp2_with fail
          refine HNN.out.mono ?_; rintro e w83 ⟨rfl, hb⟩
          have HZ83 := hid ((hb.out.block (w.heap.size + 1) (by omega)).trans HZ82.out)
          have HP : Hid (Post B (fun k => w81.heap.size ≤ k) w81 b O A room now (delL k L) (wholeR 1) w83 (rval (wholeR 1) none 0)) := by
            obtain ⟨O8, A8, h1, h2⟩ := HH.out
            exact ⟨O8, A8, h1.below hb.out, h2.trans (Stp.below hb.out O8 A8), rp_flat (fit_num (by decide)).1 (fit_num (by decide)).2⟩
          clear hb
          go_wp2_with (refine wpList_store_row rfl 32 _ _ rfl (w.heap.size + 1) #[.int .i64 (wholeR 1).kind, .int .i64 (wholeR 1).int, txt (wholeR 1).text, .slice none (wholeR 1).list.length 0] rfl rfl 32 _ HZ83.out (Re.infoRep _ _ _ _) rfl (one_r _ _ _) ?_)
          refine bodyPost_ret (v := rval (wholeR 1) none 0) ?_ rfl ?_
          · exact Re.ret_rep1 rfl rfl (setRow_heap w83 _ _ _ _ _ HZ83.out)
          · exact ⟨none, 0, rfl, Post.set HP.out HS.out HB81.out (w.heap.size + 1) (by omega) (by omega) (fun j hj => ⟨by omega, by omega⟩) (keep_row _ _ _)⟩
      · have hgt : now < now + n := by omega
        replace HCC := hid (show C = (putLL L room now (k, valOf L k, now + n), putR L room now (k, valOf L k, now + n) (wholeR 1)) by rw [HCC.out, if_neg hlt])
        clear hlt
        go_upto_region 12 with fail
        clear x0 x1 x2 e0 e1 e2 e3 e4 e5 e6 e7 f0 f1 f2 f3 f4 f5 f6 f7
        generalize w10.setCell ⟨eb, 7, none⟩ (.int .i64 (now + n)) = w11 at HE11 HB11 HC11 HZ11 HO11 hs11 hz11 ⊢
        obtain ⟨x0, x1, x2⟩ := call_facts HC11.out
        obtain ⟨e0, e1, e2, e3, e4, e5, e6, e7⟩ := ent_facts HE11.out
        have HNN : Hid (Calls Tryz.prog 72 #[.int .i64 1] w11.drew fun e w' => e = .returned (rval (wholeR 1) none 0) ∧ Hid (Below w11.drew.heap.size w11.drew w')) := number_any 1 w11.drew
        have HBd : Hid (Below w.heap.size w w11.drew) := HB11.out.drew
        have HPut : Hid (∀ w12 : World, Below w11.drew.heap.size w11.drew w12 → Calls Tryz.prog 123 #[cv b cEXPIRE (some ⟨g, o, none⟩) 2 c, ev ⟨y.key, y.m, y.pp, y.pc, y.ip, y.ic, now + n⟩, rval (wholeR 1) none 0] w12 fun e w' => ∃ q' d', e = .returned (rval C.2 q' d') ∧ Hid (Post B (fun _ => False) w12 b O A room now C.1 C.2 w' (rval C.2 q' d'))) := fun w12 hb => by
          have := put_any (HS.out.below (HBd.out.trans (hb.mono HBd.out.size))) cEXPIRE (some ⟨g, o, none⟩) 2 c ⟨y.key, y.m, y.pp, y.pc, y.ip, y.ic, now + n⟩ ⟨by rw [hyk]; exact hl0, by rw [HYM.out]; exact hcm.1, by rw [HYM.out]; exact hcm.2.1, by rw [HYM.out]; exact hcm.2.2, ⟨hsum, by show now + n ≤ _; omega⟩⟩ (by
            have hl := ((HO11.out.below (Below.refl _ _).drew).below hb).lies
            exact Lies.keep (P := fun k => w.heap.size + 2 ≤ k ∧ k < w12.heap.size) (x := ⟨y.key, y.m, y.pp, y.pc, y.ip, y.ic, now + n⟩) ⟨hl.vi, hl.pairs, hl.items⟩ (Keep.refl _ _) (fun j hj ho => by have := (HS.out.lt j (HS.out.sub j ho)).2; omega)) (wholeR 1) none 0 (fun _ => False) (fun _ h => h.elim) (rp_flat (fit_num (by decide)).1 (fit_num (by decide)).2)
          rw [show pr8 (⟨y.key, y.m, y.pp, y.pc, y.ip, y.ic, now + n⟩ : E8) = (k, valOf L k, now + n) by show (y.key, y.m, now + n) = _; rw [hyk, HYM.out], show putLL L room now (k, valOf L k, now + n) = C.1 by rw [HCC.out], show putR L room now (k, valOf L k, now + n) (wholeR 1) = C.2 by rw [HCC.out]] at this
          exact this
        clear hyk
        go_wp2_with fail
        go_region_law
          (first
            | (go_simp; go_at_call 72; (with_reducible refine HNN.out.mono ?_); rintro e w12 ⟨rfl, hb⟩; have HP12 := hid (HPut.out w12 hb.out); have hs12 : w11.heap.size ≤ w12.heap.size := hb.out.size; have HB12 := hid (HBd.out.trans (hb.out.mono HBd.out.size)); have HC12 := hid ((hb.out.block w.heap.size (show w.heap.size < w11.heap.size by omega)).trans HC11.out); have HZ12 := hid ((hb.out.block (w.heap.size + 1) (show w.heap.size + 1 < w11.heap.size by omega)).trans HZ11.out); obtain ⟨z0, z1, z2⟩ := call_facts HC12.out; obtain ⟨d0, d1, d2, d3, d4, d5, d6, d7⟩ := ent_facts ((hb.out.block eb hz11).trans HE11.out); clear hb)
            | (go_simp; go_at_call 123; (with_reducible refine HP12.out.mono ?_); rintro e w13 ⟨q, d, rfl, hh⟩; have HH := hid hh.out; have HZ13 := hid ((show w13.heap[w.heap.size + 1]? = _ by obtain ⟨O', A', _, h2, _⟩ := HH.out.ex; exact own_block' HS.out h2 (w.heap.size + 1) (by omega) (by omega)).trans HZ12.out); obtain ⟨t0, t1, t2, t3⟩ := rep_facts HZ13.out; obtain ⟨f0, f1, f2, f3⟩ := rep_frozen HZ13.out; clear hh))
        all_goals
          go_wp2_with fail
          refine bodyPost_ret (v := rval C.2 q d) ?_ rfl ?_
          · exact Re.ret_rep1 rfl rfl (set4_same _ _ _ _ HZ13.out)
          · exact ⟨q, d, rfl, Post.set HH.out HS.out HB12.out (w.heap.size + 1) (by omega) (by omega) (fun _ hj => hj.elim) (set4_keep w13 (w.heap.size + 1) (.int .i64 C.2.kind) (.int .i64 C.2.int) (txt C.2.text) (.slice q C.2.list.length d))⟩
  · obtain rfl : C = (L, fault fNumber) := by rw [HCC.out, if_pos hE]
    have heb : (E == 0) = false := beq_eq_false_iff_ne.2 hE
    have HW := hid (wrong_any fNumber w1)
    clear hE
    go_wp2_with fail
    refine HW.out.mono ?_; rintro e w2 ⟨rfl, hb⟩
    have HB2 := hid (HB1.out.trans (hb.out.mono HB1.out.size))
    have HZ2 := hid ((hb.out.block (w.heap.size + 1) (by omega)).trans HZ1.out)
    clear hb
    go_wp2_with (refine wpList_store_row rfl 32 _ _ rfl (w.heap.size + 1) #[.int .i64 (fault fNumber).kind, .int .i64 (fault fNumber).int, txt (fault fNumber).text, .slice none (fault fNumber).list.length 0] rfl rfl 32 _ HZ2.out (Re.infoRep _ _ _ _) rfl (one_r _ _ _) ?_)
    refine bodyPost_ret (v := rval (fault fNumber) none 0) ?_ rfl ?_
    · exact Re.ret_rep1 rfl rfl (setRow_heap w2 _ _ _ _ _ HZ2.out)
    · exact ⟨none, 0, rfl, Post.quiet HS.out (Re.below_setRow HB2.out (by omega) _) (rp_flat (fit_fault (by decide)).1 (fit_fault (by decide)).2) (fun _ h => h)⟩
set_option maxHeartbeats 8000000 in
set_option maxRecDepth 100000 in
theorem a40 (k a : Nm) : Ans 51 cEXPIRE ([k, a]) (fun room now L => (if Num.tellE a ≠ 0 then (L, fault fNumber) else if isIn L k = false then (L, wholeR 0) else if min (Num.tellV a) (1099511627776 - now) < 1 then (delL k L, wholeR 1) else (putLL L room now (k, valOf L k, now + min (Num.tellV a) (1099511627776 - now)), putR L room now (k, valOf L k, now + min (Num.tellV a) (1099511627776 - now)) (wholeR 1)))) := by
  intro B w b O A L room now hS p c hR hT hlen hO
  have HA := hid (al_two w (cob b cEXPIRE p ([k, a]).length c) rob0)
  have HI := hid (a40i k a B _ b O A L room now (hS.below HA.out.1) p c (hR.below HA.out.1) hT hlen hO)
  have HS := hid hS
  generalize (fun room now L => (if Num.tellE a ≠ 0 then (L, fault fNumber) else if isIn L k = false then (L, wholeR 0) else if min (Num.tellV a) (1099511627776 - now) < 1 then (delL k L, wholeR 1) else (putLL L room now (k, valOf L k, now + min (Num.tellV a) (1099511627776 - now)), putR L room now (k, valOf L k, now + min (Num.tellV a) (1099511627776 - now)) (wholeR 1)))) room now L = C at *
  generalize ([k, a]).length = n at *
  clear hS hR hT hlen hO
  go_enter Tryz.func51, Tryz.ntmps51
  go_wp2_with fail
  refine HI.out.mono ?_; rintro e w1 ⟨q, d, rfl, hh⟩
  have hs0 := HA.out.2.2.2
  have HH := hid hh.out
  have HZ1 := hid ((show w1.heap[w.heap.size + 1]? = _ by
    obtain ⟨O', A', _, h2, _⟩ := HH.out.ex
    exact own_block' HS.out h2 (w.heap.size + 1) (by omega) (by omega)).trans HA.out.2.2.1)
  clear hh HI
  go_wp2_with (refine wpList_store_row rfl 32 _ _ rfl (w.heap.size + 1) #[.int .i64 C.2.kind, .int .i64 C.2.int, txt C.2.text, .slice q C.2.list.length d] rfl rfl 32 _ HZ1.out (Re.infoRep _ _ _ _) rfl (one_r _ _ _) ?_)
  refine bodyPost_ret (v := rval C.2 q d) ?_ rfl ?_
  · exact Re.ret_rep1 rfl rfl (setRow_heap w1 _ _ _ _ _ HZ1.out)
  · exact ⟨q, d, rfl, Post.set HH.out HS.out HA.out.1 (w.heap.size + 1) (by omega) (by omega) (fun j hj => ⟨by omega, by omega⟩) (keep_row _ _ _)⟩

end Go.Proofs.YtcbncdigejjcpaaGreatDoor.Ex
