/- Next. -/
import Derived.Test.YtjcfbnhmljlkpaaLkSend
namespace Go.Proofs.Ytjcfbnhmljlkpaa
open Go.RowKit Go.Maps

theorem lt_zero (P : Nat → Prop) (w : World) : LtR P w zeroLt none none := ⟨fun h => absurd rfl h, ⟨0, fun h => absurd rfl h⟩, ⟨by decide, by decide, by decide, by decide, by decide, by decide⟩⟩
def KNextP (b : Nat) (F R : Nat → Prop) (ws : List Wy) (f t : Int) (w : World) (e : Ending) (w' : World) : Prop :=
  ∃ ap ac rp rc, e = .returned (.tuple #[.agg (ltC (headV ws f t) ap ac rp rc), .bool (!(onV ws f t).isEmpty)]) ∧ Hid (∃ F' R', LtR R' w' (headV ws f t) ap rp ∧ LB w' b F' R' (cutV ws f t) ∧ Kp F F' R R' w w')
set_option maxHeartbeats 8000000 in
set_option maxRecDepth 100000 in
theorem knext_any {w : World} {b : Nat} {F R : Nat → Prop} {ws : List Wy} (h : LB w b F R ws) (f t : Int) (hi : IE f t) (hl : ws.length ≤ 100000) :
    Calls Try.prog 15 #[ptr b, .int .i64 f, .int .i64 t] w (KNextP b F R ws f t w) := by
  obtain ⟨m, D, pl, hs⟩ := h
  have HS := hid hs
  have HI := hid hi
  have HL := hid hl
  have hb1 : Below w.heap.size w ((w.alloc (.cells zeroL 33)).alloc (.cells (prC (f, t)) 41)) := (below_alloc w _).trans ((below_alloc _ _).mono (by simp))
  obtain ⟨w1, hw1⟩ : ∃ W, (w.alloc (.cells zeroL 33)).alloc (.cells (prC (f, t)) 41) = W := ⟨_, rfl⟩
  have hx1 : w1.heap[w.heap.size]? = some (.cells zeroL 33 (0, 0)) := by rw [← hw1]; exact ((below_alloc _ _).block _ (by simp)).trans (heap_alloc_new w _)
  have hk1 : w1.heap[w.heap.size + 1]? = some (.cells (prC (f, t)) 41 (0, 0)) := by
    rw [← hw1]
    have := heap_alloc_new (w.alloc (.cells zeroL 33)) (.cells (prC (f, t)) 41)
    rwa [World.size_alloc] at this
  have hz1 : w1.heap.size = w.heap.size + 2 := by rw [← hw1, World.size_alloc, World.size_alloc]
  rw [hw1] at hb1
  have HW1 := hid hw1
  have HB1 := hid hb1
  have HX1 := hid hx1
  have HK1 := hid hk1
  have HZ1 := hid hz1
  have hs1 := hs.keep (w' := w1) (fun k hk => hb1.block k (hs.lt k hk)) hb1.size
  have HS1 := hid hs1
  have c0 : w1.cell? ⟨b, 0, none⟩ = some (.map (some m)) := cell_of_row w1 b 0 _ _ _ hs1.blk
  have k0 : w1.cell? ⟨w.heap.size + 1, 0, none⟩ = some (.int .i64 f) := cell_of_row w1 _ 0 _ _ _ hk1
  have k1 : w1.cell? ⟨w.heap.size + 1, 1, none⟩ = some (.int .i64 t) := cell_of_row w1 _ 1 _ _ _ hk1
  obtain ⟨l, hpl⟩ : ∃ l, pl f t = l := ⟨_, rfl⟩
  have HPl := hid hpl
  have hv := hs1.val f t hi
  rw [hpl] at hv
  have hlen : l.length ≤ 100000 := by rw [← hpl, hs.qlen]; exact Nat.le_trans (onV_len _ _ _) hl
  have HLn := hid hlen
  obtain ⟨A, hA⟩ : ∃ A, fstA l = A := ⟨_, rfl⟩
  obtain ⟨Z, hZ⟩ : ∃ A, lstA l = A := ⟨_, rfl⟩
  obtain ⟨N, hN⟩ : ∃ A, l.length = A := ⟨_, rfl⟩
  have HN := hid hN
  have hv' : D.atKey (kl f t) (.held zrow) = .held (.agg #[.pointer A, .pointer Z, .int .i64 (N : Int)]) := by rw [hv, ← hA, ← hZ, ← hN]; rfl
  have HRow : Hid (rowC (fstA l) (lstA l) l.length = #[.pointer A, .pointer Z, .int .i64 (N : Int)]) := by unfold Hid; rw [hA, hZ, hN]
  have Hv := hid hv'
  clear hs hi hl hb1 hw1 hx1 hk1 hz1 hs1 hpl hv hlen hA hZ hN hv'
  go_enter Try.func15, Try.ntmps15
  go_upto_region 2 with fail
  generalize hgw : (w.alloc _).alloc _ = wg
  obtain rfl : w1 = wg := HW1.out.symm.trans hgw
  clear hgw
  go_cut [9] (fun c9 wx => ∃ rb, c9 = .pointer (some ⟨rb, 0, none⟩) ∧ w1.heap.size ≤ rb ∧ RowB wx rb l ∧ Below w1.heap.size w1 wx)
  case first =>
    refine wp_region_noPanic ?_
    refine wp_region_held_drew (S := fun W => W.cell? ⟨b, 0, none⟩ = some (.map (some m)) ∧ (W.cell? ⟨w.heap.size + 1, 0, none⟩ = some (.int .i64 f) ∧ W.cell? ⟨w.heap.size + 1, 1, none⟩ = some (.int .i64 t)) ∧ OM W m (size D) D) (by kernel_rfl) ⟨c0, ⟨k0, k1⟩, HS1.out.om⟩ (fun hHeld => ?_)
    refine wpAnyH_take (i := 0) (oi := { dst := some 14, op := Op.move (Operand.tmp 0), type := 23, pos := "links.go:41", after := #[], guard := none }) (v := ptr b) rfl (by kernel_rfl) (by kernel_rfl) (by kernel_rfl) (fun _ _ _ h => h) (Or.inl ⟨by rfl, fun wS hSw => ?_⟩) (by assumption) ?_
    · clear hHeld
      clear hSw
      go_simp
    try simp only [Act.put, List.setIfInBounds_toArray, List.set_cons_zero, List.set_cons_succ]
    refine wpAnyH_take (i := 1) (oi := { dst := some 15, op := Op.nilCheck (Operand.tmp 14), type := 0, pos := "links.go:41", after := #[{ on := 0, ground := Ground.data }], guard := none }) (v := ptr b) rfl (by kernel_rfl) (by kernel_rfl) (by kernel_rfl) (fun _ _ _ h => h) (Or.inl ⟨by rfl, fun wS hSw => ?_⟩) (by assumption) ?_
    · clear hHeld
      clear hSw
      go_simp
    try simp only [Act.put, List.setIfInBounds_toArray, List.set_cons_zero, List.set_cons_succ]
    refine wpAnyH_take (i := 2) (oi := { dst := some 16, op := Op.fieldAddr 53 (Operand.tmp 15) 0, type := 0, pos := "links.go:41", after := #[{ on := 1, ground := Ground.data }], guard := none }) (v := ptr b) rfl (by kernel_rfl) (by kernel_rfl) (by kernel_rfl) (fun _ _ _ h => h) (Or.inl ⟨by rfl, fun wS hSw => ?_⟩) (by assumption) ?_
    · clear hHeld
      clear hSw
      go_simp
    try simp only [Act.put, List.setIfInBounds_toArray, List.set_cons_zero, List.set_cons_succ]
    refine wpAnyH_take (i := 3) (oi := { dst := some 17, op := Op.load 51 (Operand.tmp 16), type := 51, pos := "links.go:41", after := #[{ on := 2, ground := Ground.data }], guard := none }) (v := .map (some m)) rfl (by kernel_rfl) (by kernel_rfl) (by kernel_rfl) (fun _ _ _ h => h) (Or.inl ⟨by rfl, fun wS hSw => ?_⟩) (by assumption) ?_
    · clear hHeld
      obtain ⟨y0, ⟨y1, y2⟩, yo⟩ := hSw
      go_simp
    try simp only [Act.put, List.setIfInBounds_toArray, List.set_cons_zero, List.set_cons_succ]
    refine wpAnyH_take (i := 4) (oi := { dst := some 18, op := Op.load 41 (Operand.tmp 8), type := 41, pos := "links.go:41", after := #[], guard := none }) (v := .agg #[.int .i64 f, .int .i64 t]) rfl (by kernel_rfl) (by kernel_rfl) (by kernel_rfl) (fun _ _ _ h => h) (Or.inl ⟨by rfl, fun wS hSw => ?_⟩) (by assumption) ?_
    · clear hHeld
      obtain ⟨y0, ⟨y1, y2⟩, yo⟩ := hSw
      go_simp
    try simp only [Act.put, List.setIfInBounds_toArray, List.set_cons_zero, List.set_cons_succ]
    refine wpAnyH_take (i := 5) (oi := { dst := some 19, op := Op.lookup 51 (Operand.tmp 17) (Operand.tmp 18) false, type := 63, pos := "links.go:41", after := #[{ on := 3, ground := Ground.data }, { on := 4, ground := Ground.data }], guard := none }) (v := .agg #[.pointer A, .pointer Z, .int .i64 (N : Int)]) rfl (by kernel_rfl) (by kernel_rfl) (by kernel_rfl) (fun _ _ _ h => h) (Or.inl ⟨by rfl, fun wS hSw => ?_⟩) (by assumption) ?_
    · clear hHeld
      obtain ⟨y0, ⟨y1, y2⟩, yo⟩ := hSw
      have hrun := yo.look HI.out Hv.out
      go_simp
    try simp only [Act.put, List.setIfInBounds_toArray, List.set_cons_zero, List.set_cons_succ]
    refine wpAnyH_ready (rs := [6]) (by kernel_rfl) (by simp) ?_
    refine AllReadyH.cons (o := { dst := some 9, op := Op.alloc 63, type := 0, pos := "links.go:41", after := #[], guard := none }) rfl (fun K hK => ?_) AllReadyH.nil
    clear hHeld
    go_simp
    refine hK _ _ ⟨?_, ⟨?_, ?_⟩, ?_⟩ (fun hHeld => ?_)
    · exact cell_turn c0 ((below_alloc w1 _).block b HS1.out.bl)
    · exact cell_turn k0 ((below_alloc w1 _).block _ (by have := HZ1.out; omega))
    · exact cell_turn k1 ((below_alloc w1 _).block _ (by have := HZ1.out; omega))
    · exact World.ownsMap.alloc (w := w1) HS1.out.om _
    clear hK K
    try simp only [Act.put, List.setIfInBounds_toArray, List.set_cons_zero, List.set_cons_succ]
    refine wpAnyH_ready (rs := [7]) (by kernel_rfl) (by simp) ?_
    refine AllReadyH.cons (o := { dst := none, op := Op.store 63 (Operand.tmp 9) (Operand.tmp 19), type := 0, pos := "links.go:41", after := #[{ on := 6, ground := Ground.data }, { on := 5, ground := Ground.data }, { on := 0, ground := Ground.phase }, { on := 1, ground := Ground.phase }, { on := 2, ground := Ground.phase }, { on := 3, ground := Ground.phase }, { on := 4, ground := Ground.phase }, { on := 5, ground := Ground.phase }, { on := 6, ground := Ground.phase }], guard := none }) rfl (fun K hK => ?_) AllReadyH.nil
    clear hHeld
    go_simp
    refine hK _ _ ⟨?_, ⟨?_, ?_⟩, ?_⟩ (fun hHeld => ?_)
    · exact cell_turn c0 ((below_alloc w1 _).block b HS1.out.bl)
    · exact cell_turn k0 ((below_alloc w1 _).block _ (by have := HZ1.out; omega))
    · exact cell_turn k1 ((below_alloc w1 _).block _ (by have := HZ1.out; omega))
    · exact World.ownsMap.alloc (w := w1) HS1.out.om _
    clear hK K hHeld
    try simp only [Act.put, List.setIfInBounds_toArray, List.set_cons_zero, List.set_cons_succ]
    refine wpAnyH_done (by kernel_rfl) ?_ _
    refine NoPanic.normal ?_
    go_wp2_with fail
    go_meet
    refine ⟨w1.heap.size, rfl, Nat.le_refl _, ?_, (below_alloc w1 _).drew⟩
    unfold RowB
    rw [HRow.out]
    exact heap_alloc_new w1 _
  case rest =>
    obtain ⟨rb, rfl, hrb, hRB, hBx⟩ := hcut
    generalize wc = w2 at *
    have hx2 : w2.heap[w.heap.size]? = some (.cells zeroL 33 (0, 0)) := (hBx.block _ (by have := HZ1.out; omega)).trans HX1.out
    have hk2 : w2.heap[w.heap.size + 1]? = some (.cells (prC (f, t)) 41 (0, 0)) := (hBx.block _ (by have := HZ1.out; omega)).trans HK1.out
    have hb2 : Below w.heap.size w w2 := HB1.out.trans (hBx.mono (by have := HZ1.out; omega))
    have hrl : rb < w2.heap.size := (Array.getElem?_eq_some_iff.1 hRB).1
    have HX2 := hid hx2
    have HK2 := hid hk2
    have HB2 := hid hb2
    have HRB := hid hRB
    have Hrl := hid hrl
    have Hrb := hid hrb
    obtain ⟨c0', c1', c2'⟩ := hRB.facts
    rw [HN.out] at c2'
    by_cases h0 : l = []
    · have hz : ((N : Int) == 0) = true := by rw [← HN.out, h0]; rfl
      have hV : onV ws f t = [] := by rw [← HS.out.empty_iff, HPl.out, h0]
      have HV := hid hV
      have hs2 := HS.out.keep (w' := w2) (fun k hk => hb2.block k (HS.out.lt k hk)) hb2.size
      have HS2 := hid hs2
      clear hx2 hk2 hb2 hRB hrl hBx c0 k0 k1 hrb h0 hV hs2 c0' c1'
      go_wp2_with (refine wpList_store_row rfl 33 _ _ rfl w.heap.size zeroL rfl rfl 33 zeroL HX2.out (infoLt _ rfl) rfl (ltC_one zeroLt none 0 none 0) (Hid.out ?_); refine hid ?_)
      have e0 : headV ws f t = zeroLt := by unfold headV; rw [HV.out]; rfl
      have hb5 : Below w.heap.size w (w2.setRow w.heap.size zeroL) := below_setRow HB2.out (Nat.le_refl _) _
      show bodyPost Try.prog Try.f15 (KNextP b F R ws f t w) .ret _ _
      refine bodyPost_ret (v := .tuple #[.agg (ltC (headV ws f t) none 0 none 0), .bool (!(onV ws f t).isEmpty)]) ?_ rfl ⟨none, 0, none, 0, rfl, F, R, ?_, ⟨m, D, pl, ?_⟩, Kp.of_below hb5 (Nat.le_refl _)⟩
      · rw [e0, HV.out]
        exact ret_ltb rfl rfl rfl rfl (setRow_heap _ _ _ _ _ _ HX2.out)
      · rw [e0]; exact lt_zero _ _
      · rw [cutV_none HV.out]
        exact HS.out.keep (fun k hk => hb5.block k (HS.out.lt k hk)) hb5.size
    · obtain ⟨p, l', rfl⟩ := List.exists_cons_of_ne_nil h0
      have hz : ((N : Int) == 0) = false := by rw [← HN.out]; simp; omega
      have hV : onV ws f t = p.x :: l'.map Pc.x := by rw [← HS.out.que, HPl.out]; rfl
      have HV := hid hV
      have hpm : p ∈ pl f t := by rw [HPl.out]; simp
      have hC2 : Chain w2 (p :: l') := by
        rw [← HPl.out]
        exact (HS.out.chain f t).turn (fun q hq => hb2.block _ ((HS.out.chain f t).lt q hq))
      have HTk := hid (take_any rb p l' w2 hRB hC2 (by have := HLn.out; simp at this; omega))
      have Hpm := hid hpm
      clear hx2 hk2 hb2 hRB hrl hBx c0 k0 k1 hrb h0 hV hpm hC2 c0' c1'
      go_wp2_with fail
      refine HTk.out.mono ?_; rintro e w3 ⟨rfl, hh⟩
      obtain ⟨g1, g2, g3⟩ := hh.out
      obtain ⟨CA, hCA⟩ : ∃ C, ltC p.x p.ap p.ac p.rp p.rc = C := ⟨_, rfl⟩
      have hCs : CA.size = 13 := by rw [← hCA]; rfl
      have hC1 : CA.all (·.oneCell') = true := by rw [← hCA]; exact ltC_one _ _ _ _ _
      have iC := infoLt CA hCs
      have HCA := hid hCA
      rw [hCA]
      obtain ⟨w4, hw4⟩ : ∃ W, (w3.alloc (.cells zeroL 33)).setRow w3.heap.size CA = W := ⟨_, rfl⟩
      have HW4 := hid hw4
      have hb4 : Below w3.heap.size w3 w4 := by rw [← hw4]; exact below_setRow (below_alloc w3 _) (Nat.le_refl _) _
      have hr4 : w4.heap[w3.heap.size]? = some (.cells CA 33 (0, 0)) := by rw [← hw4]; exact setRow_heap _ _ _ _ _ _ (heap_alloc_new w3 _)
      have s2 := HB2.out.size
      have s3 := g2.size
      have s4 := hb4.size
      have hmw := HS.out.ml
      have hbw := HS.out.bl
      have z1 := HZ1.out
      have rl := Hrl.out
      have rb1 := Hrb.out
      have old4 : ∀ k, k < w.heap.size → w4.heap[k]? = w.heap[k]? := fun k hk => (hb4.block k (by omega)).trans ((g3 k (by omega) (by omega)).trans (HB2.out.block k hk))
      have hx4 : w4.heap[w.heap.size]? = some (.cells zeroL 33 (0, 0)) := (hb4.block _ (by omega)).trans ((g3 _ (by omega) (by omega)).trans HX2.out)
      have hk4 : w4.heap[w.heap.size + 1]? = some (.cells (prC (f, t)) 41 (0, 0)) := (hb4.block _ (by omega)).trans ((g3 _ (by omega) (by omega)).trans HK2.out)
      have hrb4 : w4.heap[rb]? = some (.cells (rowC (fstA l') (lstA (p :: l')) l'.length) 63 (0, 0)) := (hb4.block rb (by omega)).trans g1
      have d0 : w4.cell? ⟨b, 0, none⟩ = some (.map (some m)) := cell_of_row w4 b 0 _ _ _ ((old4 b hbw).trans HS.out.blk)
      have d1 : w4.cell? ⟨w.heap.size + 1, 0, none⟩ = some (.int .i64 f) := cell_of_row w4 _ 0 _ _ _ hk4
      have d2 : w4.cell? ⟨w.heap.size + 1, 1, none⟩ = some (.int .i64 t) := cell_of_row w4 _ 1 _ _ _ hk4
      obtain ⟨A', hA'⟩ : ∃ A, fstA l' = A := ⟨_, rfl⟩
      obtain ⟨Z', hZ'⟩ : ∃ A, lstA (p :: l') = A := ⟨_, rfl⟩
      obtain ⟨N', hN'⟩ : ∃ A, l'.length = A := ⟨_, rfl⟩
      have r0 : w4.cell? ⟨rb, 0, none⟩ = some (.pointer A') := by rw [cell_of_row w4 rb 0 _ _ _ hrb4, ← hA']; rfl
      have r1 : w4.cell? ⟨rb, 1, none⟩ = some (.pointer Z') := by rw [cell_of_row w4 rb 1 _ _ _ hrb4, ← hZ']; rfl
      have r2 : w4.cell? ⟨rb, 2, none⟩ = some (.int .i64 (N' : Int)) := by rw [cell_of_row w4 rb 2 _ _ _ hrb4, ← hN']; rfl
      have hom4 : OM w4 m (size D) D := by
        obtain ⟨es, clock, hb, rest⟩ := HS.out.om
        exact ⟨es, clock, (old4 m hmw).trans hb, rest⟩
      have hb04 : Below 0 w w4 := ((HB2.out.mono (Nat.zero_le _)).trans g2).trans (hb4.mono (Nat.zero_le _))
      have HO4 := hid hom4
      have HX4 := hid hx4
      have HR4 := hid hr4
      have Hold := hid old4
      have H04 := hid hb04
      have HA' := hid hA'
      have HZ' := hid hZ'
      have HN' := hid hN'
      have Hs4 : Hid (w.heap.size + 2 ≤ w3.heap.size ∧ w3.heap.size < w4.heap.size ∧ rb < w3.heap.size ∧ w.heap.size + 2 ≤ rb) := ⟨by omega, (Array.getElem?_eq_some_iff.1 hr4).1, by omega, by omega⟩
      -- the end of both ways
      have fin : ∀ (w5 : World) (D' : DataW Value) (n' : Nat), w4.drew.grownBy w5 (some m) → D' = (if l' = [] then D.del (kl f t) else D.put (kl f t) (.held (rowOf l'))) → OM w5 m n' D' →
          KNextP b F R ws f t w (.returned (.tuple #[.agg CA, .bool true])) (w5.setRow w.heap.size CA) := by
        intro w5 D' n' hg hD hom
        have hpx : headV ws f t = p.x := by unfold headV; rw [HV.out]; rfl
        have hm5 : m < w.heap.size := HS.out.ml
        have hds : w4.drew.heap.size = w4.heap.size := rfl
        have sz : w.heap.size < w5.heap.size := Nat.lt_of_lt_of_le (by have := Hs4.out; omega) hg.size
        have h5 : ∀ k, k < w.heap.size → k ≠ m → (w5.setRow w.heap.size CA).heap[k]? = w.heap[k]? := fun k hk hne => by
          rw [setRow_other _ _ _ _ (by omega), hg.block k (by have := Hs4.out; omega) (fun e => hne (by injection e))]
          exact Hold.out k hk
        have hom' : OM (w5.setRow w.heap.size CA) m n' D' := by
          obtain ⟨es, clock, hb, rest⟩ := hom
          exact ⟨es, clock, (setRow_other _ _ _ _ (by omega)).trans hb, rest⟩
        have hsz5 : w.heap.size ≤ (w5.setRow w.heap.size CA).heap.size := by simp; omega
        have hLS := HS.out.cut HPl.out hsz5 h5 hD hom'
        refine ⟨p.ap, p.ac, p.rp, p.rc, by rw [hpx, HCA.out, HV.out]; rfl, F, R, ?_, ⟨m, _, _, hLS⟩, ?_⟩
        · rw [hpx]
          exact (HS.out.lies f t p Hpm.out).1.turn (fun k hr hlt => ⟨hr, h5 k hlt (fun e => HS.out.sep k hr (e ▸ HS.out.fm))⟩)
        · refine ⟨?_, fun k hk hn => h5 k hk (fun e => hn (e ▸ HS.out.fm)), fun k hk => .inl hk, fun k hk => .inl hk⟩
          exact below_setRow (H04.out.drew.grown hg (Nat.zero_le _) (fun _ _ => Nat.zero_le _)) (Nat.zero_le _) _
      have HFin := hid fin
      have hmm : m ≠ b := HS.out.mb
      clear hh g1 g2 g3 hCA hw4 hb4 hr4 s2 s3 s4 hmw hbw z1 rl rb1 old4 hx4 hk4 hrb4 hA' hZ' hN' hom4 hb04 fin HTk hz c2'
      go_upto_region 6 with (refine wpList_store_row rfl 33 _ _ rfl w3.heap.size CA rfl rfl 33 zeroL (heap_alloc_new w3 _) iC (by rw [hCs]; rfl) hC1 (Hid.out ?_); refine hid ?_)
      rw [HW4.out]
      by_cases h00 : l' = []
      · have hz : ((N' : Int) == 0) = true := by rw [← HN'.out, h00]; rfl
        obtain ⟨w5, hrun5, hom5, hg5⟩ := OM.drop (w := w4.drew) HO4.out HI.out 0
        have HE := hid (HFin.out w5 _ _ hg5 (by rw [if_pos h00]) hom5)
        have h5 : ∀ k, k < w4.heap.size → k ≠ m → w5.heap[k]? = w4.heap[k]? := fun k hk hne => hg5.block k hk (fun e => hne (by injection e))
        have ss := Hs4.out
        have hmw := HS.out.ml
        have e0 : w5.cell? ⟨b, 0, none⟩ = some (.map (some m)) := cell_turn d0 (h5 b (by have := HS.out.bl; omega) hmm.symm)
        have e1 : w5.cell? ⟨w.heap.size + 1, 0, none⟩ = some (.int .i64 f) := cell_turn d1 (h5 _ (by omega) (by omega))
        have e2 : w5.cell? ⟨w.heap.size + 1, 1, none⟩ = some (.int .i64 t) := cell_turn d2 (h5 _ (by omega) (by omega))
        have hr5 : w5.heap[rb]? = w4.heap[rb]? := h5 rb (by omega) (by omega)
        have q0 : w5.cell? ⟨rb, 0, none⟩ = some (.pointer A') := cell_turn r0 hr5
        have q1 : w5.cell? ⟨rb, 1, none⟩ = some (.pointer Z') := cell_turn r1 hr5
        have q2 : w5.cell? ⟨rb, 2, none⟩ = some (.int .i64 (N' : Int)) := cell_turn r2 hr5
        have HX5 : Hid (w5.heap[w.heap.size]? = some (.cells zeroL 33 (0, 0))) := (h5 _ (by omega) (by omega)).trans HX4.out
        have HR5 : Hid (w5.heap[w3.heap.size]? = some (.cells CA 33 (0, 0))) := (h5 _ (by omega) (by omega)).trans HR4.out
        have HRn := hid hrun5
        clear hrun5 hom5 hg5 h5 ss hmw hr5 h00
        go_upto_region 7 with fail
        refine wp_region_noPanic ?_
        refine wp_region_held_drew (S := fun W => (W.cell? ⟨b, 0, none⟩ = some (.map (some m)) ∧ W.cell? ⟨w.heap.size + 1, 0, none⟩ = some (.int .i64 f) ∧ W.cell? ⟨w.heap.size + 1, 1, none⟩ = some (.int .i64 t)) ∧ W.cell? ⟨rb, 0, none⟩ = some (.pointer A') ∧ W.cell? ⟨rb, 1, none⟩ = some (.pointer Z') ∧ W.cell? ⟨rb, 2, none⟩ = some (.int .i64 (N' : Int))) (by kernel_rfl) ⟨⟨d0, d1, d2⟩, r0, r1, r2⟩ (fun hHeld => ?_)
        refine wpAnyH_take (i := 0) (oi := { dst := some 28, op := Op.move (Operand.tmp 0), type := 23, pos := "links.go:47", after := #[], guard := none }) (v := ptr b) rfl (by kernel_rfl) (by kernel_rfl) (by kernel_rfl) (fun _ _ _ h => h) (Or.inl ⟨by rfl, fun wS hSw => ?_⟩) (by assumption) ?_
        · clear hHeld
          clear hSw
          go_simp
        try simp only [Act.put, List.setIfInBounds_toArray, List.set_cons_zero, List.set_cons_succ]
        refine wpAnyH_take (i := 1) (oi := { dst := some 29, op := Op.nilCheck (Operand.tmp 28), type := 0, pos := "links.go:47", after := #[{ on := 0, ground := Ground.data }], guard := none }) (v := ptr b) rfl (by kernel_rfl) (by kernel_rfl) (by kernel_rfl) (fun _ _ _ h => h) (Or.inl ⟨by rfl, fun wS hSw => ?_⟩) (by assumption) ?_
        · clear hHeld
          clear hSw
          go_simp
        try simp only [Act.put, List.setIfInBounds_toArray, List.set_cons_zero, List.set_cons_succ]
        refine wpAnyH_take (i := 2) (oi := { dst := some 30, op := Op.fieldAddr 53 (Operand.tmp 29) 0, type := 0, pos := "links.go:47", after := #[{ on := 1, ground := Ground.data }], guard := none }) (v := ptr b) rfl (by kernel_rfl) (by kernel_rfl) (by kernel_rfl) (fun _ _ _ h => h) (Or.inl ⟨by rfl, fun wS hSw => ?_⟩) (by assumption) ?_
        · clear hHeld
          clear hSw
          go_simp
        try simp only [Act.put, List.setIfInBounds_toArray, List.set_cons_zero, List.set_cons_succ]
        refine wpAnyH_take (i := 3) (oi := { dst := some 31, op := Op.load 51 (Operand.tmp 30), type := 51, pos := "links.go:47", after := #[{ on := 2, ground := Ground.data }], guard := none }) (v := .map (some m)) rfl (by kernel_rfl) (by kernel_rfl) (by kernel_rfl) (fun _ _ _ h => h) (Or.inl ⟨by rfl, fun wS hSw => ?_⟩) (by assumption) ?_
        · clear hHeld
          obtain ⟨⟨y0, y1, y2⟩, z0, z1, z2⟩ := hSw
          go_simp
        try simp only [Act.put, List.setIfInBounds_toArray, List.set_cons_zero, List.set_cons_succ]
        refine wpAnyH_take (i := 4) (oi := { dst := some 32, op := Op.load 41 (Operand.tmp 8), type := 41, pos := "links.go:47", after := #[], guard := none }) (v := .agg #[.int .i64 f, .int .i64 t]) rfl (by kernel_rfl) (by kernel_rfl) (by kernel_rfl) (fun _ _ _ h => h) (Or.inl ⟨by rfl, fun wS hSw => ?_⟩) (by assumption) ?_
        · clear hHeld
          obtain ⟨⟨y0, y1, y2⟩, z0, z1, z2⟩ := hSw
          go_simp
        try simp only [Act.put, List.setIfInBounds_toArray, List.set_cons_zero, List.set_cons_succ]
        refine wpAnyH_ready (rs := [5]) (by kernel_rfl) (by simp) ?_
        refine AllReadyH.cons (o := { dst := none, op := Op.call { callee := Callee.builtin Builtin.delete, args := #[Operand.tmp 31, Operand.tmp 32], argTypes := #[51, 41] }, type := 0, pos := "links.go:47", after := #[{ on := 3, ground := Ground.data }, { on := 4, ground := Ground.data }], guard := none }) rfl (fun K hK => ?_) AllReadyH.nil
        clear hHeld
        have hrun5 := HRn.out
        go_simp
        refine hK _ _ ⟨⟨e0, e1, e2⟩, q0, q1, q2⟩ (fun hHeld => ?_)
        clear hK K hHeld
        try simp only [Act.put, List.setIfInBounds_toArray, List.set_cons_zero, List.set_cons_succ]
        refine wpAnyH_done (by kernel_rfl) ?_ _
        refine NoPanic.normal ?_
        clear hz d0 d1 d2 r0 r1 r2 e0 e1 e2 q0 q1 q2
        go_wp2_with (first
          | (refine wpList_load_row rfl 33 _ rfl w3.heap.size rfl 33 CA (0, 0) _ HR5.out Try.underlying33 rfl iC (Hid.out ?_); refine hid ?_)
          | (refine wpList_store_row rfl 33 _ _ rfl w.heap.size CA rfl rfl 33 zeroL HX5.out iC (by rw [hCs]; rfl) hC1 (Hid.out ?_); refine hid ?_))
        show bodyPost Try.prog Try.f15 (KNextP b F R ws f t w) .ret _ _
        exact bodyPost_ret (v := .tuple #[.agg CA, .bool true]) (ret_ltb rfl hCs rfl rfl (setRow_heap _ _ _ _ _ _ HX5.out)) rfl HE.out
      · have hz : ((N' : Int) == 0) = false := by
          have : N' ≠ 0 := fun e => h00 (List.length_eq_zero_iff.1 (by rw [HN'.out, e]))
          simpa using this
        obtain ⟨w5, hrun5, hom5, hg5⟩ := OM.store (w := w4.drew) HO4.out HI.out (rowOf l') (by have := HS.out.size_le; have := HL.out; unfold maxLen; omega)
        have hlz : lstA l' = Z' := by
          rw [← HZ'.out]
          cases l' with
          | nil => exact absurd rfl h00
          | cons y l' => rfl
        have hrow : rowOf l' = .agg #[.pointer A', .pointer Z', .int .i64 (N' : Int)] := by unfold rowOf; rw [HA'.out, hlz, HN'.out]
        have HE := hid (HFin.out w5 _ _ hg5 (by rw [if_neg h00]) hom5)
        rw [hrow] at hrun5
        clear hrow hlz
        have h5 : ∀ k, k < w4.heap.size → k ≠ m → w5.heap[k]? = w4.heap[k]? := fun k hk hne => hg5.block k hk (fun e => hne (by injection e))
        have ss := Hs4.out
        have hmw := HS.out.ml
        have e0 : w5.cell? ⟨b, 0, none⟩ = some (.map (some m)) := cell_turn d0 (h5 b (by have := HS.out.bl; omega) hmm.symm)
        have e1 : w5.cell? ⟨w.heap.size + 1, 0, none⟩ = some (.int .i64 f) := cell_turn d1 (h5 _ (by omega) (by omega))
        have e2 : w5.cell? ⟨w.heap.size + 1, 1, none⟩ = some (.int .i64 t) := cell_turn d2 (h5 _ (by omega) (by omega))
        have hr5 : w5.heap[rb]? = w4.heap[rb]? := h5 rb (by omega) (by omega)
        have q0 : w5.cell? ⟨rb, 0, none⟩ = some (.pointer A') := cell_turn r0 hr5
        have q1 : w5.cell? ⟨rb, 1, none⟩ = some (.pointer Z') := cell_turn r1 hr5
        have q2 : w5.cell? ⟨rb, 2, none⟩ = some (.int .i64 (N' : Int)) := cell_turn r2 hr5
        have HX5 : Hid (w5.heap[w.heap.size]? = some (.cells zeroL 33 (0, 0))) := (h5 _ (by omega) (by omega)).trans HX4.out
        have HR5 : Hid (w5.heap[w3.heap.size]? = some (.cells CA 33 (0, 0))) := (h5 _ (by omega) (by omega)).trans HR4.out
        have HRn := hid hrun5
        clear hrun5 hom5 hg5 h5 ss hmw hr5 h00
        go_upto_region 8 with fail
        refine wp_region_noPanic ?_
        refine wp_region_held_drew (S := fun W => (W.cell? ⟨b, 0, none⟩ = some (.map (some m)) ∧ W.cell? ⟨w.heap.size + 1, 0, none⟩ = some (.int .i64 f) ∧ W.cell? ⟨w.heap.size + 1, 1, none⟩ = some (.int .i64 t)) ∧ W.cell? ⟨rb, 0, none⟩ = some (.pointer A') ∧ W.cell? ⟨rb, 1, none⟩ = some (.pointer Z') ∧ W.cell? ⟨rb, 2, none⟩ = some (.int .i64 (N' : Int))) (by kernel_rfl) ⟨⟨d0, d1, d2⟩, r0, r1, r2⟩ (fun hHeld => ?_)
        refine wpAnyH_take (i := 0) (oi := { dst := some 33, op := Op.move (Operand.tmp 0), type := 23, pos := "links.go:49", after := #[], guard := none }) (v := ptr b) rfl (by kernel_rfl) (by kernel_rfl) (by kernel_rfl) (fun _ _ _ h => h) (Or.inl ⟨by rfl, fun wS hSw => ?_⟩) (by assumption) ?_
        · clear hHeld
          clear hSw
          go_simp
        try simp only [Act.put, List.setIfInBounds_toArray, List.set_cons_zero, List.set_cons_succ]
        refine wpAnyH_take (i := 1) (oi := { dst := some 34, op := Op.nilCheck (Operand.tmp 33), type := 0, pos := "links.go:49", after := #[{ on := 0, ground := Ground.data }], guard := none }) (v := ptr b) rfl (by kernel_rfl) (by kernel_rfl) (by kernel_rfl) (fun _ _ _ h => h) (Or.inl ⟨by rfl, fun wS hSw => ?_⟩) (by assumption) ?_
        · clear hHeld
          clear hSw
          go_simp
        try simp only [Act.put, List.setIfInBounds_toArray, List.set_cons_zero, List.set_cons_succ]
        refine wpAnyH_take (i := 2) (oi := { dst := some 35, op := Op.fieldAddr 53 (Operand.tmp 34) 0, type := 0, pos := "links.go:49", after := #[{ on := 1, ground := Ground.data }], guard := none }) (v := ptr b) rfl (by kernel_rfl) (by kernel_rfl) (by kernel_rfl) (fun _ _ _ h => h) (Or.inl ⟨by rfl, fun wS hSw => ?_⟩) (by assumption) ?_
        · clear hHeld
          clear hSw
          go_simp
        try simp only [Act.put, List.setIfInBounds_toArray, List.set_cons_zero, List.set_cons_succ]
        refine wpAnyH_take (i := 3) (oi := { dst := some 36, op := Op.load 51 (Operand.tmp 35), type := 51, pos := "links.go:49", after := #[{ on := 2, ground := Ground.data }], guard := none }) (v := .map (some m)) rfl (by kernel_rfl) (by kernel_rfl) (by kernel_rfl) (fun _ _ _ h => h) (Or.inl ⟨by rfl, fun wS hSw => ?_⟩) (by assumption) ?_
        · clear hHeld
          obtain ⟨⟨y0, y1, y2⟩, z0, z1, z2⟩ := hSw
          go_simp
        try simp only [Act.put, List.setIfInBounds_toArray, List.set_cons_zero, List.set_cons_succ]
        refine wpAnyH_take (i := 4) (oi := { dst := some 37, op := Op.load 41 (Operand.tmp 8), type := 41, pos := "links.go:49", after := #[], guard := none }) (v := .agg #[.int .i64 f, .int .i64 t]) rfl (by kernel_rfl) (by kernel_rfl) (by kernel_rfl) (fun _ _ _ h => h) (Or.inl ⟨by rfl, fun wS hSw => ?_⟩) (by assumption) ?_
        · clear hHeld
          obtain ⟨⟨y0, y1, y2⟩, z0, z1, z2⟩ := hSw
          go_simp
        try simp only [Act.put, List.setIfInBounds_toArray, List.set_cons_zero, List.set_cons_succ]
        refine wpAnyH_take (i := 5) (oi := { dst := some 38, op := Op.load 63 (Operand.tmp 9), type := 63, pos := "links.go:49", after := #[], guard := none }) (v := .agg #[.pointer A', .pointer Z', .int .i64 (N' : Int)]) rfl (by kernel_rfl) (by kernel_rfl) (by kernel_rfl) (fun _ _ _ h => h) (Or.inl ⟨by rfl, fun wS hSw => ?_⟩) (by assumption) ?_
        · clear hHeld
          obtain ⟨⟨y0, y1, y2⟩, z0, z1, z2⟩ := hSw
          go_simp
        try simp only [Act.put, List.setIfInBounds_toArray, List.set_cons_zero, List.set_cons_succ]
        refine wpAnyH_ready (rs := [6]) (by kernel_rfl) (by simp) ?_
        refine AllReadyH.cons (o := { dst := none, op := Op.mapUpdate 51 (Operand.tmp 36) (Operand.tmp 37) (Operand.tmp 38), type := 0, pos := "links.go:49", after := #[{ on := 3, ground := Ground.data }, { on := 4, ground := Ground.data }, { on := 5, ground := Ground.data }, { on := 0, ground := Ground.phase }, { on := 1, ground := Ground.phase }, { on := 2, ground := Ground.phase }, { on := 3, ground := Ground.phase }, { on := 4, ground := Ground.phase }, { on := 5, ground := Ground.phase }], guard := none }) rfl (fun K hK => ?_) AllReadyH.nil
        clear hHeld
        have hrun5 := HRn.out
        go_simp
        refine hK _ _ ⟨⟨e0, e1, e2⟩, q0, q1, q2⟩ (fun hHeld => ?_)
        clear hK K hHeld
        try simp only [Act.put, List.setIfInBounds_toArray, List.set_cons_zero, List.set_cons_succ]
        refine wpAnyH_done (by kernel_rfl) ?_ _
        refine NoPanic.normal ?_
        clear hz d0 d1 d2 r0 r1 r2 e0 e1 e2 q0 q1 q2
        go_wp2_with (first
          | (refine wpList_load_row rfl 33 _ rfl w3.heap.size rfl 33 CA (0, 0) _ HR5.out Try.underlying33 rfl iC (Hid.out ?_); refine hid ?_)
          | (refine wpList_store_row rfl 33 _ _ rfl w.heap.size CA rfl rfl 33 zeroL HX5.out iC (by rw [hCs]; rfl) hC1 (Hid.out ?_); refine hid ?_))
        show bodyPost Try.prog Try.f15 (KNextP b F R ws f t w) .ret _ _
        exact bodyPost_ret (v := .tuple #[.agg CA, .bool true]) (ret_ltb rfl hCs rfl rfl (setRow_heap _ _ _ _ _ _ HX5.out)) rfl HE.out
end Go.Proofs.Ytjcfbnhmljlkpaa
