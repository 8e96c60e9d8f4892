/- Send. -/
import Derived.Test.YtjcfbnhmljlkpaaLkNew
namespace Go.Proofs.Ytjcfbnhmljlkpaa
open Go.RowKit Go.Maps

set_option maxHeartbeats 8000000 in
set_option maxRecDepth 100000 in
theorem ksend_any {w : World} {b : Nat} {F R : Nat → Prop} {ws : List Wy} (h : LB w b F R ws) (f t : Int) (x : Lt) (ap : Option Addr) (ac : Nat) (rp : Option Addr) (rc : Nat) (hx : LtR All w x ap rp) (hf : FewL x) (hi : IE f t) (hl : ws.length ≤ 100000) :
    Calls Try.prog 14 #[ptr b, .int .i64 f, .int .i64 t, .agg (ltC x ap ac rp rc)] w fun e w' => e = .returned (.tuple #[]) ∧ Hid (∃ F' R', LB w' b F' R' (ws ++ [⟨f, t, x⟩]) ∧ Kp F F' R R' w w') := by
  obtain ⟨m, D, pl, hs⟩ := h
  have HS := hid hs
  have HX := hid hx
  have HF := hid hf
  have HI := hid hi
  have HL := hid hl
  have hb1 : Below w.heap.size w ((w.alloc (.cells (ltC x ap ac rp rc) 33)).alloc (.cells (prC (f, t)) 41)) := (below_alloc w _).trans ((below_alloc _ _).mono (by simp))
  obtain ⟨w1, hw1⟩ : ∃ W, (w.alloc (.cells (ltC x ap ac rp rc) 33)).alloc (.cells (prC (f, t)) 41) = W := ⟨_, rfl⟩
  have hx1 : w1.heap[w.heap.size]? = some (.cells (ltC x ap ac rp rc) 33 (0, 0)) := by rw [← hw1]; exact ((below_alloc _ _).block _ (by simp)).trans (heap_alloc_new w _)
  have hk1 : w1.heap[w.heap.size + 1]? = some (.cells (prC (f, t)) 41 (0, 0)) := by
    rw [← hw1]
    have := heap_alloc_new (w.alloc (.cells (ltC x ap ac rp rc) 33)) (.cells (prC (f, t)) 41)
    rwa [World.size_alloc] at this
  have hz1 : w1.heap.size = w.heap.size + 2 := by rw [← hw1, World.size_alloc, World.size_alloc]
  rw [hw1] at hb1
  have HW1 := hid hw1
  have HB1 := hid hb1
  have HX1 := hid hx1
  have HK1 := hid hk1
  have HZ1 := hid hz1
  have hs1 := hs.keep (w' := w1) (fun k hk => hb1.block k (hs.lt k hk)) hb1.size
  have HS1 := hid hs1
  have c0 : w1.cell? ⟨b, 0, none⟩ = some (.map (some m)) := cell_of_row w1 b 0 _ _ _ hs1.blk
  have k0 : w1.cell? ⟨w.heap.size + 1, 0, none⟩ = some (.int .i64 f) := cell_of_row w1 _ 0 _ _ _ hk1
  have k1 : w1.cell? ⟨w.heap.size + 1, 1, none⟩ = some (.int .i64 t) := cell_of_row w1 _ 1 _ _ _ hk1
  obtain ⟨l, hpl⟩ : ∃ l, pl f t = l := ⟨_, rfl⟩
  have HPl := hid hpl
  have hv := hs1.val f t hi
  rw [hpl] at hv
  have hlen : l.length ≤ 100000 := by rw [← hpl, hs.qlen]; exact Nat.le_trans (onV_len _ _ _) hl
  have HLn := hid hlen
  obtain ⟨A, hA⟩ : ∃ A, fstA l = A := ⟨_, rfl⟩
  obtain ⟨Z, hZ⟩ : ∃ A, lstA l = A := ⟨_, rfl⟩
  obtain ⟨N, hN⟩ : ∃ A, l.length = A := ⟨_, rfl⟩
  have hv' : D.atKey (kl f t) (.held zrow) = .held (.agg #[.pointer A, .pointer Z, .int .i64 (N : Int)]) := by rw [hv, ← hA, ← hZ, ← hN]; rfl
  have HRow : Hid (rowC (fstA l) (lstA l) l.length = #[.pointer A, .pointer Z, .int .i64 (N : Int)]) := by unfold Hid; rw [hA, hZ, hN]
  have Hv := hid hv'
  clear hs hx hf hi hl hb1 hw1 hx1 hk1 hz1 hs1 hpl hv hlen hA hZ hN hv'
  unfold ltC
  go_enter Try.func14, Try.ntmps14
  go_upto_region 2 with fail
  generalize hgw : (w.alloc _).alloc _ = wg
  obtain rfl : w1 = wg := HW1.out.symm.trans hgw
  clear hgw
  go_cut [9] (fun c9 wx => ∃ rb, c9 = .pointer (some ⟨rb, 0, none⟩) ∧ w1.heap.size ≤ rb ∧ RowB wx rb l ∧ Below w1.heap.size w1 wx)
  case first =>
    refine wp_region_noPanic ?_
    refine wp_region_held_drew (S := fun W => W.cell? ⟨b, 0, none⟩ = some (.map (some m)) ∧ (W.cell? ⟨w.heap.size + 1, 0, none⟩ = some (.int .i64 f) ∧ W.cell? ⟨w.heap.size + 1, 1, none⟩ = some (.int .i64 t)) ∧ OM W m (size D) D) (by kernel_rfl) ⟨c0, ⟨k0, k1⟩, HS1.out.om⟩ (fun hHeld => ?_)
    refine wpAnyH_take (i := 0) (oi := { dst := some 13, op := Op.move (Operand.tmp 0), type := 23, pos := "links.go:34", after := #[], guard := none }) (v := ptr b) rfl (by kernel_rfl) (by kernel_rfl) (by kernel_rfl) (fun _ _ _ h => h) (Or.inl ⟨by rfl, fun wS hSw => ?_⟩) (by assumption) ?_
    · clear hHeld
      clear hSw
      go_simp
    try simp only [Act.put, List.setIfInBounds_toArray, List.set_cons_zero, List.set_cons_succ]
    refine wpAnyH_take (i := 1) (oi := { dst := some 14, op := Op.nilCheck (Operand.tmp 13), type := 0, pos := "links.go:34", after := #[{ on := 0, ground := Ground.data }], guard := none }) (v := ptr b) rfl (by kernel_rfl) (by kernel_rfl) (by kernel_rfl) (fun _ _ _ h => h) (Or.inl ⟨by rfl, fun wS hSw => ?_⟩) (by assumption) ?_
    · clear hHeld
      clear hSw
      go_simp
    try simp only [Act.put, List.setIfInBounds_toArray, List.set_cons_zero, List.set_cons_succ]
    refine wpAnyH_take (i := 2) (oi := { dst := some 15, op := Op.fieldAddr 53 (Operand.tmp 14) 0, type := 0, pos := "links.go:34", after := #[{ on := 1, ground := Ground.data }], guard := none }) (v := ptr b) rfl (by kernel_rfl) (by kernel_rfl) (by kernel_rfl) (fun _ _ _ h => h) (Or.inl ⟨by rfl, fun wS hSw => ?_⟩) (by assumption) ?_
    · clear hHeld
      clear hSw
      go_simp
    try simp only [Act.put, List.setIfInBounds_toArray, List.set_cons_zero, List.set_cons_succ]
    refine wpAnyH_take (i := 3) (oi := { dst := some 16, op := Op.load 51 (Operand.tmp 15), type := 51, pos := "links.go:34", after := #[{ on := 2, ground := Ground.data }], guard := none }) (v := .map (some m)) rfl (by kernel_rfl) (by kernel_rfl) (by kernel_rfl) (fun _ _ _ h => h) (Or.inl ⟨by rfl, fun wS hSw => ?_⟩) (by assumption) ?_
    · clear hHeld
      obtain ⟨y0, ⟨y1, y2⟩, yo⟩ := hSw
      go_simp
    try simp only [Act.put, List.setIfInBounds_toArray, List.set_cons_zero, List.set_cons_succ]
    refine wpAnyH_take (i := 4) (oi := { dst := some 17, op := Op.load 41 (Operand.tmp 8), type := 41, pos := "links.go:34", after := #[], guard := none }) (v := .agg #[.int .i64 f, .int .i64 t]) rfl (by kernel_rfl) (by kernel_rfl) (by kernel_rfl) (fun _ _ _ h => h) (Or.inl ⟨by rfl, fun wS hSw => ?_⟩) (by assumption) ?_
    · clear hHeld
      obtain ⟨y0, ⟨y1, y2⟩, yo⟩ := hSw
      go_simp
    try simp only [Act.put, List.setIfInBounds_toArray, List.set_cons_zero, List.set_cons_succ]
    refine wpAnyH_take (i := 5) (oi := { dst := some 18, op := Op.lookup 51 (Operand.tmp 16) (Operand.tmp 17) false, type := 63, pos := "links.go:34", after := #[{ on := 3, ground := Ground.data }, { on := 4, ground := Ground.data }], guard := none }) (v := .agg #[.pointer A, .pointer Z, .int .i64 (N : Int)]) rfl (by kernel_rfl) (by kernel_rfl) (by kernel_rfl) (fun _ _ _ h => h) (Or.inl ⟨by rfl, fun wS hSw => ?_⟩) (by assumption) ?_
    · clear hHeld
      obtain ⟨y0, ⟨y1, y2⟩, yo⟩ := hSw
      have hrun := yo.look HI.out Hv.out
      go_simp
    try simp only [Act.put, List.setIfInBounds_toArray, List.set_cons_zero, List.set_cons_succ]
    refine wpAnyH_ready (rs := [6]) (by kernel_rfl) (by simp) ?_
    refine AllReadyH.cons (o := { dst := some 9, op := Op.alloc 63, type := 0, pos := "links.go:34", after := #[], guard := none }) rfl (fun K hK => ?_) AllReadyH.nil
    clear hHeld
    go_simp
    refine hK _ _ ⟨?_, ⟨?_, ?_⟩, ?_⟩ (fun hHeld => ?_)
    · exact cell_turn c0 ((below_alloc w1 _).block b HS1.out.bl)
    · exact cell_turn k0 ((below_alloc w1 _).block _ (by have := HZ1.out; omega))
    · exact cell_turn k1 ((below_alloc w1 _).block _ (by have := HZ1.out; omega))
    · exact World.ownsMap.alloc (w := w1) HS1.out.om _
    clear hK K
    try simp only [Act.put, List.setIfInBounds_toArray, List.set_cons_zero, List.set_cons_succ]
    refine wpAnyH_ready (rs := [7]) (by kernel_rfl) (by simp) ?_
    refine AllReadyH.cons (o := { dst := none, op := Op.store 63 (Operand.tmp 9) (Operand.tmp 18), type := 0, pos := "links.go:34", after := #[{ on := 6, ground := Ground.data }, { on := 5, ground := Ground.data }, { on := 0, ground := Ground.phase }, { on := 1, ground := Ground.phase }, { on := 2, ground := Ground.phase }, { on := 3, ground := Ground.phase }, { on := 4, ground := Ground.phase }, { on := 5, ground := Ground.phase }, { on := 6, ground := Ground.phase }], guard := none }) rfl (fun K hK => ?_) AllReadyH.nil
    clear hHeld
    go_simp
    refine hK _ _ ⟨?_, ⟨?_, ?_⟩, ?_⟩ (fun hHeld => ?_)
    · exact cell_turn c0 ((below_alloc w1 _).block b HS1.out.bl)
    · exact cell_turn k0 ((below_alloc w1 _).block _ (by have := HZ1.out; omega))
    · exact cell_turn k1 ((below_alloc w1 _).block _ (by have := HZ1.out; omega))
    · exact World.ownsMap.alloc (w := w1) HS1.out.om _
    clear hK K hHeld
    try simp only [Act.put, List.setIfInBounds_toArray, List.set_cons_zero, List.set_cons_succ]
    refine wpAnyH_done (by kernel_rfl) ?_ _
    refine NoPanic.normal ?_
    go_wp2_with fail
    go_meet
    refine ⟨w1.heap.size, rfl, Nat.le_refl _, ?_, (below_alloc w1 _).drew⟩
    unfold RowB
    rw [HRow.out]
    exact heap_alloc_new w1 _
  case rest =>
    obtain ⟨rb, rfl, hrb, hRB, hBx⟩ := hcut
    generalize wc = w2 at *
    have hx2 : w2.heap[w.heap.size]? = some (.cells (ltC x ap ac rp rc) 33 (0, 0)) := (hBx.block _ (by have := HZ1.out; omega)).trans HX1.out
    have hk2 : w2.heap[w.heap.size + 1]? = some (.cells (prC (f, t)) 41 (0, 0)) := (hBx.block _ (by have := HZ1.out; omega)).trans HK1.out
    have hb2 : Below w.heap.size w w2 := HB1.out.trans (hBx.mono (by have := HZ1.out; omega))
    have hrl : rb < w2.heap.size := (Array.getElem?_eq_some_iff.1 hRB).1
    have HX2 := hid hx2
    have HK2 := hid hk2
    have HB2 := hid hb2
    have HRB := hid hRB
    have Hrl := hid hrl
    have Hrb := hid hrb
    have HO := hid (own_lt x ap ac rp rc w2 (HX.out.below hb2 (Nat.le_refl _)) HF.out)
    clear hx2 hk2 hb2 hRB hrl hBx c0 k0 k1 hrb
    go_wp2_with (refine wpList_load_row rfl 33 _ rfl w.heap.size rfl 33 (ltC x ap ac rp rc) (0, 0) _ HX2.out Try.underlying33 rfl (infoLt _ rfl) (Hid.out ?_); refine hid ?_)
    refine HO.out.mono ?_; rintro e w3 ⟨q, d, q2, d2, rfl, hh⟩
    have HL3 := hid hh.out.1
    have HB3 := hid hh.out.2
    have hW3 : Below w.heap.size w w3 := HB2.out.trans (HB3.out.mono HB2.out.size)
    have hR3 : RowB w3 rb l := own_keepCells HRB.out HB3.out
    have hC3 : Chain w3 l := by
      rw [← HPl.out]
      exact (HS.out.chain f t).turn (fun p hp => hW3.block _ ((HS.out.chain f t).lt p hp))
    have hnd := HS.out.nodup f t
    rw [HPl.out] at hnd
    have HW3 := hid hW3
    have HPt := hid (put_any rb l x q d q2 d2 w3 hR3 hC3 hnd HLn.out)
    clear hh HO hW3 hR3 hC3 hnd
    go_wp2_with fail
    refine HPt.out.mono ?_; rintro e w4 ⟨rfl, hh⟩
    obtain ⟨nb, n1, n2, n3, n4, n5, n6⟩ := hh.out
    have s1 := HB2.out.size
    have s2 := HB3.out.size
    have hmw := HS.out.ml
    have hbw := HS.out.bl
    have hnl : ∀ k, w.heap.size ≤ k → k ∉ l.map Pc.b := fun k hk hc => by
      obtain ⟨y, hy, e⟩ := List.mem_map.1 hc
      rw [← HPl.out] at hy
      have := (HS.out.chain f t).lt y hy
      omega
    have hml : m ∉ l.map Pc.b := fun hc => by
      obtain ⟨y, hy, e⟩ := List.mem_map.1 hc
      rw [← HPl.out] at hy
      exact (HS.out.pm hy).1 e
    have hbl : b ∉ l.map Pc.b := fun hc => by
      obtain ⟨y, hy, e⟩ := List.mem_map.1 hc
      rw [← HPl.out] at hy
      exact (HS.out.pm hy).2 e
    have old4 : ∀ k, k < w.heap.size → k ∉ l.map Pc.b → w4.heap[k]? = w.heap[k]? := fun k hk hn => (n6 k (by omega) (by have := Hrb.out; have := HZ1.out; omega) hn).trans (HW3.out.block k hk)
    have hk4 : w4.heap[w.heap.size + 1]? = some (.cells (prC (f, t)) 41 (0, 0)) := (n6 _ (by have := HZ1.out; have := Hrl.out; have := Hrb.out; omega) (by have := Hrb.out; have := HZ1.out; omega) (hnl _ (by omega))).trans (own_keepCells HK2.out HB3.out)
    have d0 : w4.cell? ⟨b, 0, none⟩ = some (.map (some m)) := cell_of_row w4 b 0 _ _ _ ((old4 b hbw hbl).trans HS.out.blk)
    have d1 : w4.cell? ⟨w.heap.size + 1, 0, none⟩ = some (.int .i64 f) := cell_of_row w4 _ 0 _ _ _ hk4
    have d2' : w4.cell? ⟨w.heap.size + 1, 1, none⟩ = some (.int .i64 t) := cell_of_row w4 _ 1 _ _ _ hk4
    obtain ⟨P, hP⟩ : ∃ P : Pc, P = ⟨nb, x, q, d, q2, d2⟩ := ⟨_, rfl⟩
    rw [← hP] at n3 n4
    have hPb : P.b = nb := by rw [hP]
    have hPx : P.x = x := by rw [hP]
    have hPa : P.ap = q := by rw [hP]
    have hPr : P.rp = q2 := by rw [hP]
    obtain ⟨A', hA'⟩ : ∃ A, fstA (l ++ [P]) = A := ⟨_, rfl⟩
    obtain ⟨Z', hZ'⟩ : ∃ A, lstA (l ++ [P]) = A := ⟨_, rfl⟩
    obtain ⟨N', hN'⟩ : ∃ A, (l ++ [P]).length = A := ⟨_, rfl⟩
    have hrow : rowOf (l ++ [P]) = .agg #[.pointer A', .pointer Z', .int .i64 (N' : Int)] := by unfold rowOf; rw [hA', hZ', hN']
    obtain ⟨r0, r1, r2⟩ := n4.facts
    rw [hA'] at r0
    rw [hZ'] at r1
    rw [hN'] at r2
    have hom4 : OM w4 m (size D) D := by
      obtain ⟨es, clock, hb, rest⟩ := HS.out.om
      exact ⟨es, clock, (old4 m hmw hml).trans hb, rest⟩
    obtain ⟨w5, hrun5, hom5, hg5⟩ := OM.store (w := w4.drew) hom4 HI.out (rowOf (l ++ [P])) (by have := HS.out.size_le; have := HL.out; unfold maxLen; omega)
    rw [hrow] at hrun5
    have h5 : ∀ k, k < w4.heap.size → k ≠ m → w5.heap[k]? = w4.heap[k]? := fun k hk hne => hg5.block k hk (fun e => hne (by injection e))
    have s5 : w4.heap.size ≤ w5.heap.size := hg5.size
    have s4 := n5.size
    have hold : ∀ k, k < w.heap.size → k ≠ m → k ∉ (pl f t).map Pc.b → w5.heap[k]? = w.heap[k]? := fun k hk hne hn => by
      rw [HPl.out] at hn
      exact (h5 k (by omega) hne).trans (old4 k hk hn)
    have hch5 : Chain w5 (pl f t ++ [P]) := by
      rw [HPl.out]
      refine n3.turn (fun y hy => h5 _ (n3.lt y hy) (fun e => ?_))
      rcases List.mem_append.1 hy with hy | hy
      · rw [← HPl.out] at hy
        exact (HS.out.pm hy).1 e
      · rw [List.mem_singleton.1 hy, hPb] at e
        omega
    have hx5 : LtR (fun k => w.heap.size ≤ k ∧ k < w3.heap.size) w5 P.x P.ap P.rp := by
      rw [hPx, hPa, hPr]
      refine HL3.out.turn (fun k hk hlt => ⟨⟨by omega, hlt⟩, ?_⟩)
      rw [h5 k (by omega) (by omega)]
      exact n6 k hlt (by have := Hrl.out; omega) (hnl k (by omega))
    have hom5' : OM w5 m (size D + 1) (D.put (kl f t) (.held (rowOf (pl f t ++ [P])))) := by rw [HPl.out]; exact hom5
    have hLS5 := HS.out.sent HI.out (p := P) (N1 := w3.heap.size) (by omega) hold hch5 (by omega) (by omega) hx5 (by rw [hPx]; exact HF.out) hom5'
    rw [hPx, hPb] at hLS5
    have hKp : Kp F (fun k => F k ∨ k = nb) R (fun k => R k ∨ (w.heap.size ≤ k ∧ k < w3.heap.size)) w w5 := by
      refine ⟨?_, fun k hk hn => hold k hk (fun e => hn (e ▸ HS.out.fm)) (fun hc => ?_), fun k hk => ?_, fun k hk => ?_⟩
      · exact (((HW3.out.mono (Nat.zero_le _)).trans n5).drew).grown hg5 (Nat.zero_le _) (fun _ _ => Nat.zero_le _)
      · obtain ⟨y, hy, e⟩ := List.mem_map.1 hc
        exact hn (e ▸ HS.out.own f t y hy)
      · rcases hk with hk | hk
        · exact .inl hk
        · exact .inr (by omega)
      · rcases hk with hk | hk
        · exact .inl hk
        · exact .inr hk.1
    have HE : Hid (∃ F' R', LB w5 b F' R' (ws ++ [⟨f, t, x⟩]) ∧ Kp F F' R R' w w5) := ⟨_, _, ⟨m, _, _, hLS5⟩, hKp⟩
    have e0 : w5.cell? ⟨b, 0, none⟩ = some (.map (some m)) := cell_turn d0 (h5 b (by omega) (fun e => HS.out.mb e.symm))
    have e1 : w5.cell? ⟨w.heap.size + 1, 0, none⟩ = some (.int .i64 f) := cell_turn d1 (h5 _ (by have := HZ1.out; have := Hrl.out; have := Hrb.out; omega) (by omega))
    have e2 : w5.cell? ⟨w.heap.size + 1, 1, none⟩ = some (.int .i64 t) := cell_turn d2' (h5 _ (by have := HZ1.out; have := Hrl.out; have := Hrb.out; omega) (by omega))
    have hr5 : w5.heap[rb]? = w4.heap[rb]? := h5 rb (by have := Hrl.out; omega) (by have := Hrb.out; have := HZ1.out; omega)
    have q0 : w5.cell? ⟨rb, 0, none⟩ = some (.pointer A') := cell_turn r0 hr5
    have q1 : w5.cell? ⟨rb, 1, none⟩ = some (.pointer Z') := cell_turn r1 hr5
    have q2' : w5.cell? ⟨rb, 2, none⟩ = some (.int .i64 (N' : Int)) := cell_turn r2 hr5
    have HRn := hid hrun5
    clear hh HPt n1 n2 n3 n4 n5 n6 s1 s2 hmw hbw hnl hml hbl old4 hk4 hP hPb hPx hPa hPr hA' hZ' hN' hrow hom4 hom5 hg5 h5 s5 s4 hold hch5 hx5 hom5' hLS5 hKp hr5 hrun5
    go_upto_region 4 with fail
    refine wp_region_noPanic ?_
    refine wp_region_held_drew (S := fun W => (W.cell? ⟨b, 0, none⟩ = some (.map (some m)) ∧ W.cell? ⟨w.heap.size + 1, 0, none⟩ = some (.int .i64 f) ∧ W.cell? ⟨w.heap.size + 1, 1, none⟩ = some (.int .i64 t)) ∧ W.cell? ⟨rb, 0, none⟩ = some (.pointer A') ∧ W.cell? ⟨rb, 1, none⟩ = some (.pointer Z') ∧ W.cell? ⟨rb, 2, none⟩ = some (.int .i64 (N' : Int))) (by kernel_rfl) ⟨⟨d0, d1, d2'⟩, r0, r1, r2⟩ (fun hHeld => ?_)
    refine wpAnyH_take (i := 0) (oi := { dst := some 22, op := Op.move (Operand.tmp 0), type := 23, pos := "links.go:36", after := #[], guard := none }) (v := ptr b) rfl (by kernel_rfl) (by kernel_rfl) (by kernel_rfl) (fun _ _ _ h => h) (Or.inl ⟨by rfl, fun wS hSw => ?_⟩) (by assumption) ?_
    · clear hHeld
      clear hSw
      go_simp
    try simp only [Act.put, List.setIfInBounds_toArray, List.set_cons_zero, List.set_cons_succ]
    refine wpAnyH_take (i := 1) (oi := { dst := some 23, op := Op.nilCheck (Operand.tmp 22), type := 0, pos := "links.go:36", after := #[{ on := 0, ground := Ground.data }], guard := none }) (v := ptr b) rfl (by kernel_rfl) (by kernel_rfl) (by kernel_rfl) (fun _ _ _ h => h) (Or.inl ⟨by rfl, fun wS hSw => ?_⟩) (by assumption) ?_
    · clear hHeld
      clear hSw
      go_simp
    try simp only [Act.put, List.setIfInBounds_toArray, List.set_cons_zero, List.set_cons_succ]
    refine wpAnyH_take (i := 2) (oi := { dst := some 24, op := Op.fieldAddr 53 (Operand.tmp 23) 0, type := 0, pos := "links.go:36", after := #[{ on := 1, ground := Ground.data }], guard := none }) (v := ptr b) rfl (by kernel_rfl) (by kernel_rfl) (by kernel_rfl) (fun _ _ _ h => h) (Or.inl ⟨by rfl, fun wS hSw => ?_⟩) (by assumption) ?_
    · clear hHeld
      clear hSw
      go_simp
    try simp only [Act.put, List.setIfInBounds_toArray, List.set_cons_zero, List.set_cons_succ]
    refine wpAnyH_take (i := 3) (oi := { dst := some 25, op := Op.load 51 (Operand.tmp 24), type := 51, pos := "links.go:36", after := #[{ on := 2, ground := Ground.data }], guard := none }) (v := .map (some m)) rfl (by kernel_rfl) (by kernel_rfl) (by kernel_rfl) (fun _ _ _ h => h) (Or.inl ⟨by rfl, fun wS hSw => ?_⟩) (by assumption) ?_
    · clear hHeld
      obtain ⟨⟨y0, y1, y2⟩, z0, z1, z2⟩ := hSw
      go_simp
    try simp only [Act.put, List.setIfInBounds_toArray, List.set_cons_zero, List.set_cons_succ]
    refine wpAnyH_take (i := 4) (oi := { dst := some 26, op := Op.load 41 (Operand.tmp 8), type := 41, pos := "links.go:36", after := #[], guard := none }) (v := .agg #[.int .i64 f, .int .i64 t]) rfl (by kernel_rfl) (by kernel_rfl) (by kernel_rfl) (fun _ _ _ h => h) (Or.inl ⟨by rfl, fun wS hSw => ?_⟩) (by assumption) ?_
    · clear hHeld
      obtain ⟨⟨y0, y1, y2⟩, z0, z1, z2⟩ := hSw
      go_simp
    try simp only [Act.put, List.setIfInBounds_toArray, List.set_cons_zero, List.set_cons_succ]
    refine wpAnyH_take (i := 5) (oi := { dst := some 27, op := Op.load 63 (Operand.tmp 9), type := 63, pos := "links.go:36", after := #[], guard := none }) (v := .agg #[.pointer A', .pointer Z', .int .i64 (N' : Int)]) rfl (by kernel_rfl) (by kernel_rfl) (by kernel_rfl) (fun _ _ _ h => h) (Or.inl ⟨by rfl, fun wS hSw => ?_⟩) (by assumption) ?_
    · clear hHeld
      obtain ⟨⟨y0, y1, y2⟩, z0, z1, z2⟩ := hSw
      go_simp
    try simp only [Act.put, List.setIfInBounds_toArray, List.set_cons_zero, List.set_cons_succ]
    refine wpAnyH_ready (rs := [6]) (by kernel_rfl) (by simp) ?_
    refine AllReadyH.cons (o := { dst := none, op := Op.mapUpdate 51 (Operand.tmp 25) (Operand.tmp 26) (Operand.tmp 27), type := 0, pos := "links.go:36", after := #[{ on := 3, ground := Ground.data }, { on := 4, ground := Ground.data }, { on := 5, ground := Ground.data }, { on := 0, ground := Ground.phase }, { on := 1, ground := Ground.phase }, { on := 2, ground := Ground.phase }, { on := 3, ground := Ground.phase }, { on := 4, ground := Ground.phase }, { on := 5, ground := Ground.phase }], guard := none }) rfl (fun K hK => ?_) AllReadyH.nil
    clear hHeld
    have hrun5 := HRn.out
    go_simp
    refine hK _ _ ⟨⟨e0, e1, e2⟩, q0, q1, q2'⟩ (fun hHeld => ?_)
    clear hK K hHeld
    try simp only [Act.put, List.setIfInBounds_toArray, List.set_cons_zero, List.set_cons_succ]
    refine wpAnyH_done (by kernel_rfl) ?_ _
    refine NoPanic.normal ?_
    go_wp2_with fail
    go_end0
    exact ⟨rfl, HE.out⟩
end Go.Proofs.Ytjcfbnhmljlkpaa
