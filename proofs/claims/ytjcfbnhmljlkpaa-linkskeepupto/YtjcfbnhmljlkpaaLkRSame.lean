/- The document's Same of letters. -/
import Derived.Test.YtjcfbnhmljlkpaaLkRow
namespace Go.Proofs.Ytjcfbnhmljlkpaa
open Go.RowKit

theorem Lt.ext {x y : Lt} (h0 : x.kind = y.kind) (h1 : x.number = y.number) (h2 : x.slot = y.slot) (h3 : x.ends = y.ends) (h4 : x.key = y.key) (h5 : x.text = y.text) (h6 : x.args = y.args) (h7 : x.reply = y.reply) (h8 : x.good = y.good) (h9 : x.asking = y.asking) : x = y := by
  obtain ⟨_, _, _, _, _, _, _, _, _, _⟩ := x
  simp_all
theorem LtR.rp {P : Nat → Prop} {w : World} {x : Lt} {ap rp : Option Addr} (h : LtR P w x ap rp) (rc : Nat) : ∃ d, Rp P w d (.agg #[.int .i64 x.reply.kind, .int .i64 x.reply.int, txt x.reply.text, .slice rp x.reply.list.length rc]) x.reply := by
  obtain ⟨d, hd⟩ := h.list
  exact ⟨d + 1, rp, rc, rfl, h.fit, hd⟩
set_option maxHeartbeats 4000000 in
set_option maxRecDepth 100000 in
/-- ref Same -/
theorem rsameL_any (x y : Lt) (ap : Option Addr) (ac : Nat) (rp : Option Addr) (rc : Nat) (bp : Option Addr) (bc : Nat) (sp : Option Addr) (sc : Nat) (w : World) (h1 : LtR All w x ap rp) (h2 : LtR All w y bp sp) (hl : x.args.length ≤ 1000000) :
    Calls Try.prog 16 #[.agg (ltC x ap ac rp rc), .agg (ltC y bp bc sp sc)] w fun e w' => ∃ b : Bool, e = .returned (.bool b) ∧ Hid ((b = true ↔ x = y) ∧ Below w.heap.size w w') := by
  obtain ⟨d1, hr1⟩ := h1.rp rc
  obtain ⟨d2, hr2⟩ := h2.rp sc
  have hb1 := below_alloc w (.cells (ltC x ap ac rp rc) 33)
  have hb2 := hb1.trans ((below_alloc (w.alloc (.cells (ltC x ap ac rp rc) 33)) (.cells (ltC y bp bc sp sc) 33)).mono hb1.size)
  have hB1 : ((w.alloc (.cells (ltC x ap ac rp rc) 33)).alloc (.cells (ltC y bp bc sp sc) 33)).heap[w.heap.size]? = some (.cells (ltC x ap ac rp rc) 33 (0, 0)) := heap_alloc2_old w _ _
  have hB2 : ((w.alloc (.cells (ltC x ap ac rp rc) 33)).alloc (.cells (ltC y bp bc sp sc) 33)).heap[w.heap.size + 1]? = some (.cells (ltC y bp bc sp sc) 33 (0, 0)) := heap_alloc2_new w _ _
  obtain ⟨w2, hw2⟩ : ∃ w2, (w.alloc (.cells (ltC x ap ac rp rc) 33)).alloc (.cells (ltC y bp bc sp sc) 33) = w2 := ⟨_, rfl⟩
  rw [hw2] at hb2 hB1 hB2
  have hs2 : w2.heap.size = w.heap.size + 2 := by rw [← hw2]; simp
  have HR := hid (rsame_any _ _ x.reply y.reply w2 (hr1.below hb2 (Nat.le_refl _)) (hr2.below hb2 (Nat.le_refl _)))
  have HQ : Hid (∀ W, Below w2.heap.size w2 W → Calls Try.prog 27 #[.slice ap x.args.length ac, .slice bp y.args.length bc] W fun e w' => e = .returned (.bool (decide (x.args = y.args))) ∧ Hid (Below W.heap.size W w')) := fun W h => by
    have k1 := (h1.below hb2 (Nat.le_refl _)).below h (Nat.le_refl _)
    have k2 := (h2.below hb2 (Nat.le_refl _)).below h (Nat.le_refl _)
    exact qsame_any _ _ ap bp ac bc x.args y.args W k1.args k2.args hl
  have HB2 := hid hb2
  have HX := hid hB1
  have HY := hid hB2
  have HW := hid hw2
  have HE : Hid (∀ b1 : Bool, (b1 = true ↔ x.reply = y.reply) → ∀ B : Bool, (B = true ↔ (b1 = true ∧ x.args = y.args ∧ x.kind = y.kind ∧ x.number = y.number ∧ x.slot = y.slot ∧ x.ends = y.ends ∧ x.key = y.key ∧ x.text = y.text ∧ x.good = y.good ∧ x.asking = y.asking)) → (B = true ↔ x = y)) := fun b1 hb B hB => by
    rw [hB, hb]
    exact ⟨fun ⟨h1, h2, h3, h4, h5, h6, h7, h8, h9, h10⟩ => Lt.ext h3 h4 h5 h6 h7 h8 h2 h1 h9 h10, fun e => by subst e; simp⟩
  obtain ⟨EA, hEA⟩ : ∃ b, decide (x.args = y.args) = b := ⟨_, rfl⟩
  have HEA : Hid (EA = true ↔ x.args = y.args) := by unfold Hid; rw [← hEA]; simp
  rw [hEA] at HQ
  unfold ltC at HX HY HW ⊢
  clear h1 h2 hr1 hr2 hb1 hb2 hB1 hB2 hw2 hEA
  generalize hxk : x.kind = xk at *
  generalize hxn : x.number = xn at *
  generalize hxs : x.slot = xs at *
  generalize hxe : x.ends = xe at *
  generalize hxy : x.key = xy at *
  generalize hxt : x.text = xt at *
  generalize hxg : x.good = xg at *
  generalize hxa : x.asking = xa at *
  generalize hyk : y.kind = yk at *
  generalize hyn : y.number = yn at *
  generalize hys : y.slot = ys at *
  generalize hye : y.ends = ye at *
  generalize hyy : y.key = yy at *
  generalize hyt : y.text = yt at *
  generalize hyg : y.good = yg at *
  generalize hya : y.asking = ya at *
  generalize x.args.length = nx at *
  generalize y.args.length = ny at *
  generalize x.reply.kind = xrk at *
  generalize x.reply.int = xri at *
  generalize x.reply.text = xrt at *
  generalize x.reply.list.length = xrl at *
  generalize y.reply.kind = yrk at *
  generalize y.reply.int = yri at *
  generalize y.reply.text = yrt at *
  generalize y.reply.list.length = yrl at *
  clear hxk hxn hxs hxe hxy hxt hxg hxa hyk hyn hys hye hyy hyt hyg hya
  go_enter Try.func16, Try.ntmps16
  go_upto_region 1 with fail
  rw [HW.out]
  clear HW
  have a0 := cell_of_row w2 (w.heap.size) 0 _ _ _ HX.out
  have a1 := cell_of_row w2 (w.heap.size) 1 _ _ _ HX.out
  have a2 := cell_of_row w2 (w.heap.size) 2 _ _ _ HX.out
  have a3 := cell_of_row w2 (w.heap.size) 3 _ _ _ HX.out
  have a4 := cell_of_row w2 (w.heap.size) 4 _ _ _ HX.out
  have a5 := cell_of_row w2 (w.heap.size) 5 _ _ _ HX.out
  have a6 := cell_of_row w2 (w.heap.size) 6 _ _ _ HX.out
  have a7 := cell_of_row w2 (w.heap.size) 7 _ _ _ HX.out
  have a8 := cell_of_row w2 (w.heap.size) 8 _ _ _ HX.out
  have a9 := cell_of_row w2 (w.heap.size) 9 _ _ _ HX.out
  have a10 := cell_of_row w2 (w.heap.size) 10 _ _ _ HX.out
  have a11 := cell_of_row w2 (w.heap.size) 11 _ _ _ HX.out
  have a12 := cell_of_row w2 (w.heap.size) 12 _ _ _ HX.out
  have b0 := cell_of_row w2 (w.heap.size + 1) 0 _ _ _ HY.out
  have b1 := cell_of_row w2 (w.heap.size + 1) 1 _ _ _ HY.out
  have b2 := cell_of_row w2 (w.heap.size + 1) 2 _ _ _ HY.out
  have b3 := cell_of_row w2 (w.heap.size + 1) 3 _ _ _ HY.out
  have b4 := cell_of_row w2 (w.heap.size + 1) 4 _ _ _ HY.out
  have b5 := cell_of_row w2 (w.heap.size + 1) 5 _ _ _ HY.out
  have b6 := cell_of_row w2 (w.heap.size + 1) 6 _ _ _ HY.out
  have b7 := cell_of_row w2 (w.heap.size + 1) 7 _ _ _ HY.out
  have b8 := cell_of_row w2 (w.heap.size + 1) 8 _ _ _ HY.out
  have b9 := cell_of_row w2 (w.heap.size + 1) 9 _ _ _ HY.out
  have b10 := cell_of_row w2 (w.heap.size + 1) 10 _ _ _ HY.out
  have b11 := cell_of_row w2 (w.heap.size + 1) 11 _ _ _ HY.out
  have b12 := cell_of_row w2 (w.heap.size + 1) 12 _ _ _ HY.out
  go_wp2_with fail
  refine HR.out.mono ?_; rintro e w3 ⟨bb, rfl, hh⟩
  have HE1 := hid (HE.out bb hh.out.1)
  have HB3 := hid hh.out.2
  have hs3 : w.heap.size + 2 ≤ w3.heap.size := by have := HB3.out.size; omega
  have HX3 := hid ((HB3.out.block _ (by omega)).trans HX.out)
  have HY3 := hid ((HB3.out.block _ (by omega)).trans HY.out)
  replace HQ := hid (HQ.out w3 HB3.out)
  clear a0 b0 a1 b1 a2 b2 a3 b3 a4 b4 a5 b5 a6 b6 a7 b7 a8 b8 a9 b9 a10 b10 a11 b11 a12 b12 hh HR HE
  have a0 := cell_of_row w3 (w.heap.size) 0 _ _ _ HX3.out
  have a1 := cell_of_row w3 (w.heap.size) 1 _ _ _ HX3.out
  have a2 := cell_of_row w3 (w.heap.size) 2 _ _ _ HX3.out
  have a3 := cell_of_row w3 (w.heap.size) 3 _ _ _ HX3.out
  have a4 := cell_of_row w3 (w.heap.size) 4 _ _ _ HX3.out
  have a5 := cell_of_row w3 (w.heap.size) 5 _ _ _ HX3.out
  have a6 := cell_of_row w3 (w.heap.size) 6 _ _ _ HX3.out
  have a7 := cell_of_row w3 (w.heap.size) 7 _ _ _ HX3.out
  have a8 := cell_of_row w3 (w.heap.size) 8 _ _ _ HX3.out
  have a9 := cell_of_row w3 (w.heap.size) 9 _ _ _ HX3.out
  have a10 := cell_of_row w3 (w.heap.size) 10 _ _ _ HX3.out
  have a11 := cell_of_row w3 (w.heap.size) 11 _ _ _ HX3.out
  have a12 := cell_of_row w3 (w.heap.size) 12 _ _ _ HX3.out
  have b0 := cell_of_row w3 (w.heap.size + 1) 0 _ _ _ HY3.out
  have b1 := cell_of_row w3 (w.heap.size + 1) 1 _ _ _ HY3.out
  have b2 := cell_of_row w3 (w.heap.size + 1) 2 _ _ _ HY3.out
  have b3 := cell_of_row w3 (w.heap.size + 1) 3 _ _ _ HY3.out
  have b4 := cell_of_row w3 (w.heap.size + 1) 4 _ _ _ HY3.out
  have b5 := cell_of_row w3 (w.heap.size + 1) 5 _ _ _ HY3.out
  have b6 := cell_of_row w3 (w.heap.size + 1) 6 _ _ _ HY3.out
  have b7 := cell_of_row w3 (w.heap.size + 1) 7 _ _ _ HY3.out
  have b8 := cell_of_row w3 (w.heap.size + 1) 8 _ _ _ HY3.out
  have b9 := cell_of_row w3 (w.heap.size + 1) 9 _ _ _ HY3.out
  have b10 := cell_of_row w3 (w.heap.size + 1) 10 _ _ _ HY3.out
  have b11 := cell_of_row w3 (w.heap.size + 1) 11 _ _ _ HY3.out
  have b12 := cell_of_row w3 (w.heap.size + 1) 12 _ _ _ HY3.out
  go_wp2_with fail
  refine HQ.out.mono ?_; rintro e w4 ⟨rfl, hb4⟩
  have HB4 := hid (HB2.out.trans ((HB3.out.mono HB2.out.size).trans (hb4.out.mono (Nat.le_trans HB2.out.size HB3.out.size))))
  have HX4 := hid ((hb4.out.block _ (by omega)).trans HX3.out)
  have HY4 := hid ((hb4.out.block _ (by omega)).trans HY3.out)
  clear a0 b0 a1 b1 a2 b2 a3 b3 a4 b4 a5 b5 a6 b6 a7 b7 a8 b8 a9 b9 a10 b10 a11 b11 a12 b12 hb4 HQ
  have a0 := cell_of_row w4 (w.heap.size) 0 _ _ _ HX4.out
  have a1 := cell_of_row w4 (w.heap.size) 1 _ _ _ HX4.out
  have a2 := cell_of_row w4 (w.heap.size) 2 _ _ _ HX4.out
  have a3 := cell_of_row w4 (w.heap.size) 3 _ _ _ HX4.out
  have a4 := cell_of_row w4 (w.heap.size) 4 _ _ _ HX4.out
  have a5 := cell_of_row w4 (w.heap.size) 5 _ _ _ HX4.out
  have a6 := cell_of_row w4 (w.heap.size) 6 _ _ _ HX4.out
  have a7 := cell_of_row w4 (w.heap.size) 7 _ _ _ HX4.out
  have a8 := cell_of_row w4 (w.heap.size) 8 _ _ _ HX4.out
  have a9 := cell_of_row w4 (w.heap.size) 9 _ _ _ HX4.out
  have a10 := cell_of_row w4 (w.heap.size) 10 _ _ _ HX4.out
  have a11 := cell_of_row w4 (w.heap.size) 11 _ _ _ HX4.out
  have a12 := cell_of_row w4 (w.heap.size) 12 _ _ _ HX4.out
  have b0 := cell_of_row w4 (w.heap.size + 1) 0 _ _ _ HY4.out
  have b1 := cell_of_row w4 (w.heap.size + 1) 1 _ _ _ HY4.out
  have b2 := cell_of_row w4 (w.heap.size + 1) 2 _ _ _ HY4.out
  have b3 := cell_of_row w4 (w.heap.size + 1) 3 _ _ _ HY4.out
  have b4 := cell_of_row w4 (w.heap.size + 1) 4 _ _ _ HY4.out
  have b5 := cell_of_row w4 (w.heap.size + 1) 5 _ _ _ HY4.out
  have b6 := cell_of_row w4 (w.heap.size + 1) 6 _ _ _ HY4.out
  have b7 := cell_of_row w4 (w.heap.size + 1) 7 _ _ _ HY4.out
  have b8 := cell_of_row w4 (w.heap.size + 1) 8 _ _ _ HY4.out
  have b9 := cell_of_row w4 (w.heap.size + 1) 9 _ _ _ HY4.out
  have b10 := cell_of_row w4 (w.heap.size + 1) 10 _ _ _ HY4.out
  have b11 := cell_of_row w4 (w.heap.size + 1) 11 _ _ _ HY4.out
  have b12 := cell_of_row w4 (w.heap.size + 1) 12 _ _ _ HY4.out
  clear HX HY HX3 HY3 HX4 HY4 HB2 HB3
  cases bb
  · -- replies differ
    have HF : Hid ((false = true) ↔ (false = true ∧ x.args = y.args ∧ xk = yk ∧ xn = yn ∧ xs = ys ∧ xe = ye ∧ xy = yy ∧ xt = yt ∧ xg = yg ∧ xa = ya)) := ⟨fun h => (by cases h), fun h => h.1⟩
    go_upto_region 3 with fail
    go_wp2_with fail
    go_ret
    exact ⟨false, rfl, HE1.out false (by exact HF.out), HB4.out⟩
  cases EA
  · have hne : ¬ x.args = y.args := fun h => by have := HEA.out.2 h; cases this
    go_upto_region 3 with fail
    go_wp2_with fail
    go_ret
    exact ⟨false, rfl, HE1.out false (by exact ⟨fun h => (by cases h), fun h => absurd h.2.1 hne⟩), HB4.out⟩
  have hea : x.args = y.args := HEA.out.1 rfl
  have HEa := hid hea
  clear hea
  by_cases qk : xk = yk
  case neg =>
    have zk : (xk == yk) = false := beq_eq_false_iff_ne.2 qk
    have HN : Hid ((false = true) ↔ (true = true ∧ x.args = y.args ∧ xk = yk ∧ xn = yn ∧ xs = ys ∧ xe = ye ∧ xy = yy ∧ xt = yt ∧ xg = yg ∧ xa = ya)) := ⟨fun h => (by cases h), fun h => absurd h.2.2.1 qk⟩
    clear qk
    go_upto_region 3 with fail
    go_wp2_with fail
    go_ret
    exact ⟨false, rfl, HE1.out false (by exact HN.out), HB4.out⟩
  have zk : (xk == yk) = true := beq_iff_eq.2 qk
  have Qk := hid qk
  clear qk
  by_cases qn : xn = yn
  case neg =>
    have zn : (xn == yn) = false := beq_eq_false_iff_ne.2 qn
    have HN : Hid ((false = true) ↔ (true = true ∧ x.args = y.args ∧ xk = yk ∧ xn = yn ∧ xs = ys ∧ xe = ye ∧ xy = yy ∧ xt = yt ∧ xg = yg ∧ xa = ya)) := ⟨fun h => (by cases h), fun h => absurd h.2.2.2.1 qn⟩
    clear qn
    go_upto_region 3 with fail
    go_wp2_with fail
    go_ret
    exact ⟨false, rfl, HE1.out false (by exact HN.out), HB4.out⟩
  have zn : (xn == yn) = true := beq_iff_eq.2 qn
  have Qn := hid qn
  clear qn
  by_cases qs : xs = ys
  case neg =>
    have zs : (xs == ys) = false := beq_eq_false_iff_ne.2 qs
    have HN : Hid ((false = true) ↔ (true = true ∧ x.args = y.args ∧ xk = yk ∧ xn = yn ∧ xs = ys ∧ xe = ye ∧ xy = yy ∧ xt = yt ∧ xg = yg ∧ xa = ya)) := ⟨fun h => (by cases h), fun h => absurd h.2.2.2.2.1 qs⟩
    clear qs
    go_upto_region 3 with fail
    go_wp2_with fail
    go_ret
    exact ⟨false, rfl, HE1.out false (by exact HN.out), HB4.out⟩
  have zs : (xs == ys) = true := beq_iff_eq.2 qs
  have Qs := hid qs
  clear qs
  by_cases qe : xe = ye
  case neg =>
    have ze : (xe == ye) = false := beq_eq_false_iff_ne.2 qe
    have HN : Hid ((false = true) ↔ (true = true ∧ x.args = y.args ∧ xk = yk ∧ xn = yn ∧ xs = ys ∧ xe = ye ∧ xy = yy ∧ xt = yt ∧ xg = yg ∧ xa = ya)) := ⟨fun h => (by cases h), fun h => absurd h.2.2.2.2.2.1 qe⟩
    clear qe
    go_upto_region 3 with fail
    go_wp2_with fail
    go_ret
    exact ⟨false, rfl, HE1.out false (by exact HN.out), HB4.out⟩
  have ze : (xe == ye) = true := beq_iff_eq.2 qe
  have Qe := hid qe
  clear qe
  by_cases qy : xy = yy
  case neg =>
    have zy : (xy == yy) = false := beq_eq_false_iff_ne.2 qy
    have HN : Hid ((false = true) ↔ (true = true ∧ x.args = y.args ∧ xk = yk ∧ xn = yn ∧ xs = ys ∧ xe = ye ∧ xy = yy ∧ xt = yt ∧ xg = yg ∧ xa = ya)) := ⟨fun h => (by cases h), fun h => absurd h.2.2.2.2.2.2.1 qy⟩
    clear qy
    go_upto_region 3 with fail
    go_wp2_with fail
    go_ret
    exact ⟨false, rfl, HE1.out false (by exact HN.out), HB4.out⟩
  have zy : (xy == yy) = true := beq_iff_eq.2 qy
  have Qy := hid qy
  clear qy
  by_cases qt : xt = yt
  case neg =>
    have zt : (xt == yt) = false := beq_eq_false_iff_ne.2 qt
    have HN : Hid ((false = true) ↔ (true = true ∧ x.args = y.args ∧ xk = yk ∧ xn = yn ∧ xs = ys ∧ xe = ye ∧ xy = yy ∧ xt = yt ∧ xg = yg ∧ xa = ya)) := ⟨fun h => (by cases h), fun h => absurd h.2.2.2.2.2.2.2.1 qt⟩
    clear qt
    go_upto_region 3 with fail
    go_wp2_with fail
    go_ret
    exact ⟨false, rfl, HE1.out false (by exact HN.out), HB4.out⟩
  have zt : (xt == yt) = true := beq_iff_eq.2 qt
  have Qt := hid qt
  clear qt
  by_cases qg : xg = yg
  case neg =>
    have zg : (xg == yg) = false := beq_eq_false_iff_ne.2 qg
    have HN : Hid ((false = true) ↔ (true = true ∧ x.args = y.args ∧ xk = yk ∧ xn = yn ∧ xs = ys ∧ xe = ye ∧ xy = yy ∧ xt = yt ∧ xg = yg ∧ xa = ya)) := ⟨fun h => (by cases h), fun h => absurd h.2.2.2.2.2.2.2.2.1 qg⟩
    clear qg
    go_upto_region 3 with fail
    go_wp2_with fail
    go_ret
    exact ⟨false, rfl, HE1.out false (by exact HN.out), HB4.out⟩
  have zg : (xg == yg) = true := beq_iff_eq.2 qg
  have Qg := hid qg
  clear qg
  by_cases qa : xa = ya
  case neg =>
    have za : (xa == ya) = false := beq_eq_false_iff_ne.2 qa
    have HN : Hid ((false = true) ↔ (true = true ∧ x.args = y.args ∧ xk = yk ∧ xn = yn ∧ xs = ys ∧ xe = ye ∧ xy = yy ∧ xt = yt ∧ xg = yg ∧ xa = ya)) := ⟨fun h => (by cases h), fun h => absurd h.2.2.2.2.2.2.2.2.2 qa⟩
    clear qa
    go_upto_region 3 with fail
    go_wp2_with fail
    go_ret
    exact ⟨false, rfl, HE1.out false (by exact HN.out), HB4.out⟩
  have za : (xa == ya) = true := beq_iff_eq.2 qa
  have Qa := hid qa
  clear qa
  go_upto_region 3 with fail
  go_wp2_with fail
  go_ret
  exact ⟨true, rfl, HE1.out true (by exact ⟨fun _ => ⟨(by trivial), HEa.out, Qk.out, Qn.out, Qs.out, Qe.out, Qy.out, Qt.out, Qg.out, Qa.out⟩, fun _ => (by trivial)⟩), HB4.out⟩
end Go.Proofs.Ytjcfbnhmljlkpaa
