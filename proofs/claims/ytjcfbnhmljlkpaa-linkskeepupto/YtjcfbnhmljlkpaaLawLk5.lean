/- The walk of the law LinksKeep. -/
import Derived.Test.YtjcfbnhmljlkpaaLkOwn3
namespace Go.Proofs.Ytjcfbnhmljlkpaa
open Go.RowKit

theorem given_one {w : World} {x : Lt} {ap : Option Addr} {ac : Nat} {rp : Option Addr} {rc : Nat} {g : Nat} (h : w.heap[g]? = some (.cells (Om.cells ⟨⟨0, 0, 0, x⟩, ap, ac, rp, rc⟩) 35 (0, 0))) (hx : LtR All w x ap rp) : GivenO w (some ⟨g, 0, none⟩) [⟨⟨0, 0, 0, x⟩, ap, ac, rp, rc⟩] := by
  refine ⟨fun _ => ⟨g, 0, rfl, (Array.getElem?_eq_some_iff.1 h).1, fun i hi j hj => ?_⟩, fun m hm => ?_, fun m hm => ?_⟩
  · obtain rfl : i = 0 := by simp at hi; omega
    rw [cell_of_row w g (0 + (0 * 16 + j)) _ _ _ h]
    simp
  · rw [List.mem_singleton.1 hm]; exact hx
  · rw [List.mem_singleton.1 hm]; exact ⟨(by decide : (Lit.int .i64 0).wf = true), (by decide : (Lit.int .i64 0).wf = true)⟩
theorem strs_set {Z : Array Value} {n B B' : Nat} {f : Nat → Nat} (h : ∀ j, j < n → ∃ s, Z[f j]? = some (.string s) ∧ s.size ≤ B) (k : Nat) (u : ByteArray) (hB : B ≤ B') (hu : u.size ≤ B') : ∀ j, j < n → ∃ s, (Z.setIfInBounds k (.string u))[f j]? = some (.string s) ∧ s.size ≤ B' := by
  intro j hj
  obtain ⟨s, hs, hb⟩ := h j hj
  rw [Array.getElem?_setIfInBounds]
  have hlt := (Array.getElem?_eq_some_iff.1 hs).1
  by_cases e : k = f j
  · rw [if_pos e, if_pos (by omega)]; exact ⟨u, rfl, hu⟩
  · rw [if_neg e]; exact ⟨s, hs, by omega⟩
/-- what is written within blocks lo .. hi alone -/
structure KN (lo hi : Nat) (w w' : World) : Prop where
  like : Below 0 w w'
  block : ∀ k, k < w.heap.size → k < lo ∨ hi ≤ k → w'.heap[k]? = w.heap[k]?
theorem KN.refl (lo hi : Nat) (w : World) : KN lo hi w w := ⟨Below.refl _ _, fun _ _ _ => rfl⟩
theorem KN.cell {lo hi : Nat} {x y : World} (h : KN lo hi x y) {g : Nat} (h1 : lo ≤ g) (h2 : g < hi) (i : Nat) (v : Value) : KN lo hi x (y.setCell ⟨g, i, none⟩ v) :=
  ⟨h.like.setCell (Nat.zero_le _) _, fun k hk hb => (heap_setCell_other _ _ _ _ (fun e => by have e : k = g := e; omega)).trans (h.block k hk hb)⟩
theorem KN.mono {a b lo hi : Nat} {x y : World} (h : KN a b x y) (h1 : lo ≤ a) (h2 : b ≤ hi) : KN lo hi x y := ⟨h.like, fun k hk hb => h.block k hk (by omega)⟩
theorem KN.trans {lo hi : Nat} {x y z : World} (h : KN lo hi x y) (k : KN lo hi y z) : KN lo hi x z :=
  ⟨h.like.trans k.like, fun i hi hb => (k.block i (Nat.lt_of_lt_of_le hi h.like.size) hb).trans (h.block i hi hb)⟩
theorem KN.below {n lo hi : Nat} {x y z : World} (h : Below n x y) (k : KN lo hi y z) (hl : n ≤ lo) (hn : n ≤ y.heap.size) : Below n x z :=
  have c := (h.mono (Nat.zero_le _)).trans k.like
  ⟨c.os, c.tape, c.output, c.size, fun i hi => (k.block i (by omega) (.inl (by omega))).trans (h.block i hi)⟩
set_option maxHeartbeats 8000000 in
set_option maxRecDepth 100000 in
/-- LinksKeep -/
theorem keep_any {LB : World → Nat → (Nat → Prop) → (Nat → Prop) → List Wy → Prop} (C : LinksIs LB) (x : Lt) (ap : Option Addr) (ac : Nat) (rp : Option Addr) (rc : Nat) (w : World) (hx : LtR All w x ap rp) (hac : ap = none → ac = 0) (hrc : rp = none → rc = 0) (hsa : ∀ s ∈ x.args, s.length ≤ 4611686018427387904) (hsl : ∀ r ∈ x.reply.list, r.text.length ≤ 4611686018427387904) :
    Calls Try.prog 6 #[.agg (ltC x ap ac rp rc)] w fun e w' => e = .returned (.bool true) ∧ Below w.heap.size w w' := by
  have hb0 := below_alloc w (.cells (ltC x ap ac rp rc) 33)
  have hX0 : (w.alloc (.cells (ltC x ap ac rp rc) 33)).heap[w.heap.size]? = some (.cells (ltC x ap ac rp rc) 33 (0, 0)) := heap_alloc_new w _
  obtain ⟨w0, hw0⟩ : ∃ W, w.alloc (.cells (ltC x ap ac rp rc) 33) = W := ⟨_, rfl⟩
  rw [hw0] at hb0 hX0
  have hs0 : w0.heap.size = w.heap.size + 1 := by rw [← hw0]; simp
  have HW := hid hw0
  have HB0 := hid hb0
  have HX := hid hX0
  have HXr := hid ((hx.turn (Q := fun k => k < w.heap.size) (fun k _ hk => ⟨hk, hb0.block k hk⟩)))
  have HNew := hid (C.new w0)
  have HAl := hid (fun W => alive_any C W)
  have Hac := hid hac
  have Hrc := hid hrc
  have Hsa := hid hsa
  have Hsl := hid hsl
  clear hx hw0 hb0 hX0 hac hrc hsa hsl
  unfold ltC at HW HX ⊢
  go_enter Try.func6, Try.ntmps6
  go_upto_region 1 with fail
  rw [HW.out]
  clear HW
  go_wp2_with fail
  refine HNew.out.mono ?_; rintro e w1 ⟨b, F1, R1, rfl, hh⟩
  obtain ⟨hlb, hlow, hb1⟩ := hh.out
  have HS1 : Hid (Go1 LB w0 w1 b F1 R1 []) := ⟨hlb, hlow, hb1⟩
  have HX1 := hid ((hb1.block w.heap.size (by omega)).trans HX.out)
  have HXr1 := hid (HXr.out.below hb1 (Nat.le_refl _))
  clear hh hlb hlow hb1 HNew
  have x0 := cell_of_row w1 (w.heap.size) 0 _ _ _ HX1.out
  have x1 := cell_of_row w1 (w.heap.size) 1 _ _ _ HX1.out
  have x2 := cell_of_row w1 (w.heap.size) 2 _ _ _ HX1.out
  have x3 := cell_of_row w1 (w.heap.size) 3 _ _ _ HX1.out
  have x4 := cell_of_row w1 (w.heap.size) 4 _ _ _ HX1.out
  have x5 := cell_of_row w1 (w.heap.size) 5 _ _ _ HX1.out
  have x6 := cell_of_row w1 (w.heap.size) 6 _ _ _ HX1.out
  have x7 := cell_of_row w1 (w.heap.size) 7 _ _ _ HX1.out
  have x8 := cell_of_row w1 (w.heap.size) 8 _ _ _ HX1.out
  have x9 := cell_of_row w1 (w.heap.size) 9 _ _ _ HX1.out
  have x10 := cell_of_row w1 (w.heap.size) 10 _ _ _ HX1.out
  have x11 := cell_of_row w1 (w.heap.size) 11 _ _ _ HX1.out
  have x12 := cell_of_row w1 (w.heap.size) 12 _ _ _ HX1.out
  obtain ⟨m, hm⟩ : ∃ m : Om, m = ⟨⟨0, 0, 0, x⟩, ap, ac, rp, rc⟩ := ⟨_, rfl⟩
  have hblk : (w1.alloc (.cells (Om.cells ⟨⟨0, 0, 0, x⟩, ap, ac, rp, rc⟩) 35)).heap[w1.heap.size]? = some (.cells (Om.cells ⟨⟨0, 0, 0, x⟩, ap, ac, rp, rc⟩) 35 (0, 0)) := heap_alloc_new w1 _
  have hb2 := below_alloc w1 (.cells (Om.cells ⟨⟨0, 0, 0, x⟩, ap, ac, rp, rc⟩) 35)
  have HFew : Hid (Calls Try.prog 9 #[.slice (some ⟨w1.heap.size, 0, none⟩) 1 1] (w1.alloc (.cells (Om.cells ⟨⟨0, 0, 0, x⟩, ap, ac, rp, rc⟩) 35)) fun e w' => ∃ b : Bool, e = .returned (.bool b) ∧ Hid ((b = true → FewO [m]) ∧ Below (w1.alloc (.cells (Om.cells ⟨⟨0, 0, 0, x⟩, ap, ac, rp, rc⟩) 35)).heap.size (w1.alloc (.cells (Om.cells ⟨⟨0, 0, 0, x⟩, ap, ac, rp, rc⟩) 35)) w')) := by
    subst hm
    exact few_any (some ⟨w1.heap.size, 0, none⟩) [⟨⟨0, 0, 0, x⟩, ap, ac, rp, rc⟩] 1 _ (given_one hblk (HXr1.out.all.below hb2 (Nat.le_refl _)))
  have HB2 := hid hb2
  have HM : Hid (FewO [m] → FewL x) := fun h => by subst hm; exact (h.2 ⟨⟨0, 0, 0, x⟩, ap, ac, rp, rc⟩ List.mem_cons_self).1
  unfold Om.cells at HFew HB2
  dsimp only at HFew HB2
  clear hm hblk hb2
  go_upto_region 2 with fail
  go_wp2_with fail
  refine HFew.out.mono ?_; rintro e w3 ⟨fb, rfl, hh⟩
  have HB3 := hid (HB2.out.trans (hh.out.2.mono HB2.out.size))
  have HS3 := hid (HS1.out.below C HB3.out)
  have HF := hid hh.out.1
  have HX3 := hid ((HB3.out.block w.heap.size (Array.getElem?_eq_some_iff.1 HX1.out).1).trans HX1.out)
  have HXr3 := hid (HXr1.out.below HB3.out (Nat.le_refl _))
  clear hh HFew HB2 HB3 HX1 HXr1 HS1 x0 x1 x2 x3 x4 x5 x6 x7 x8 x9 x10 x11 x12
  cases fb
  · go_wp2_with fail
    refine (HAl.out w3).mono ?_; rintro e w4 ⟨rfl, hb⟩
    have HB4 := hid (HB0.out.trans ((HS3.out.bel.trans (hb.out.mono HS3.out.bel.size)).mono HB0.out.size))
    clear hb
    go_wp2_with fail
    go_ret
    exact ⟨rfl, HB4.out⟩
  have HFx := hid (HM.out (HF.out (by trivial)))
  clear HF HM
  have x0 := cell_of_row w3 (w.heap.size) 0 _ _ _ HX3.out
  have x1 := cell_of_row w3 (w.heap.size) 1 _ _ _ HX3.out
  have x2 := cell_of_row w3 (w.heap.size) 2 _ _ _ HX3.out
  have x3 := cell_of_row w3 (w.heap.size) 3 _ _ _ HX3.out
  have x4 := cell_of_row w3 (w.heap.size) 4 _ _ _ HX3.out
  have x5 := cell_of_row w3 (w.heap.size) 5 _ _ _ HX3.out
  have x6 := cell_of_row w3 (w.heap.size) 6 _ _ _ HX3.out
  have x7 := cell_of_row w3 (w.heap.size) 7 _ _ _ HX3.out
  have x8 := cell_of_row w3 (w.heap.size) 8 _ _ _ HX3.out
  have x9 := cell_of_row w3 (w.heap.size) 9 _ _ _ HX3.out
  have x10 := cell_of_row w3 (w.heap.size) 10 _ _ _ HX3.out
  have x11 := cell_of_row w3 (w.heap.size) 11 _ _ _ HX3.out
  have x12 := cell_of_row w3 (w.heap.size) 12 _ _ _ HX3.out
  have hl3 : w.heap.size < w3.heap.size := (Array.getElem?_eq_some_iff.1 HX3.out).1
  obtain ⟨w4, hw4⟩ : ∃ W, w3.alloc (.cells (ltC x ap ac rp rc) 33) = W := ⟨_, rfl⟩
  have hY4 : w4.heap[w3.heap.size]? = some (.cells (ltC x ap ac rp rc) 33 (0, 0)) := by rw [← hw4]; exact heap_alloc_new w3 _
  have hb4 : Below w3.heap.size w3 w4 := by rw [← hw4]; exact below_alloc w3 _
  have hs4 : Hid (w4.heap.size = w3.heap.size + 1) := by unfold Hid; rw [← hw4]; simp
  have HX4 := hid ((hb4.block _ hl3).trans HX3.out)
  have HY4 := hid hY4
  have HS4 := hid (HS3.out.below C hb4)
  have HXr4 := hid (HXr3.out.below hb4 (Nat.le_refl _))
  have HW4 := hid hw4
  unfold ltC at HW4 HY4
  -- the texts
  have hbe := below_alloc w4 (.cells #[] 9)
  have hte : TxR (fun k => k < w.heap.size) (w4.alloc (.cells #[] 9)) ap x.args := (HXr4.out.below hbe (Nat.le_refl _)).args
  obtain ⟨v5, W5, hrun5, ho5, hb5⟩ := copyS (B := w4.heap.size) hte Hac.out (by have := HFx.out.2; omega) hbe.size (World.ownsRow_lit w4 #[] 0 (Nat.le_refl _) (Nat.zero_le _) rfl)
  obtain ⟨n5, hn5⟩ : ∃ n, x.args.length = n := ⟨_, rfl⟩
  have HN5 := hid hn5
  have hsh5 : ∃ q d, v5 = .slice q n5 d := by
    rcases ho5.2 with ⟨e, h0⟩ | ⟨g, cap, cur, e, _⟩
    · exact ⟨none, 0, by rw [e, ← hn5, h0]⟩
    · exact ⟨_, cap, by rw [e, hn5]⟩
  obtain ⟨q5, d5, rfl⟩ := hsh5
  rw [hn5] at hrun5 ho5
  have HR5 := hid hrun5
  have HO5 := hid ho5
  have HB5 := hid (hbe.trans hb5)
  have HY5 := hid ((HB5.out.block w3.heap.size (by have := hs4.out; omega)).trans HY4.out)
  rw [hn5] at HX4 HY4 HW4
  rw [hn5] at x6
  clear hn5 hrun5 ho5 hb5 hbe hte hw4 hY4 hb4
  rw [HN5.out]
  go_upto_region 5 with fail
  rw [HW4.out]
  clear HW4 x0 x1 x2 x3 x4 x5 x6 x7 x8 x9 x10 x11 x12
  have x0 := cell_of_row w4 (w.heap.size) 0 _ _ _ HX4.out
  have x1 := cell_of_row w4 (w.heap.size) 1 _ _ _ HX4.out
  have x2 := cell_of_row w4 (w.heap.size) 2 _ _ _ HX4.out
  have x3 := cell_of_row w4 (w.heap.size) 3 _ _ _ HX4.out
  have x4 := cell_of_row w4 (w.heap.size) 4 _ _ _ HX4.out
  have x5 := cell_of_row w4 (w.heap.size) 5 _ _ _ HX4.out
  have x6 := cell_of_row w4 (w.heap.size) 6 _ _ _ HX4.out
  have x7 := cell_of_row w4 (w.heap.size) 7 _ _ _ HX4.out
  have x8 := cell_of_row w4 (w.heap.size) 8 _ _ _ HX4.out
  have x9 := cell_of_row w4 (w.heap.size) 9 _ _ _ HX4.out
  have x10 := cell_of_row w4 (w.heap.size) 10 _ _ _ HX4.out
  have x11 := cell_of_row w4 (w.heap.size) 11 _ _ _ HX4.out
  have x12 := cell_of_row w4 (w.heap.size) 12 _ _ _ HX4.out
  have y0 := cell_of_row w4 (w3.heap.size) 0 _ _ _ HY4.out
  have y1 := cell_of_row w4 (w3.heap.size) 1 _ _ _ HY4.out
  have y2 := cell_of_row w4 (w3.heap.size) 2 _ _ _ HY4.out
  have y3 := cell_of_row w4 (w3.heap.size) 3 _ _ _ HY4.out
  have y4 := cell_of_row w4 (w3.heap.size) 4 _ _ _ HY4.out
  have y5 := cell_of_row w4 (w3.heap.size) 5 _ _ _ HY4.out
  have y6 := cell_of_row w4 (w3.heap.size) 6 _ _ _ HY4.out
  have y7 := cell_of_row w4 (w3.heap.size) 7 _ _ _ HY4.out
  have y8 := cell_of_row w4 (w3.heap.size) 8 _ _ _ HY4.out
  have y9 := cell_of_row w4 (w3.heap.size) 9 _ _ _ HY4.out
  have y10 := cell_of_row w4 (w3.heap.size) 10 _ _ _ HY4.out
  have y11 := cell_of_row w4 (w3.heap.size) 11 _ _ _ HY4.out
  have y12 := cell_of_row w4 (w3.heap.size) 12 _ _ _ HY4.out
  have xe6 : (w4.alloc (.cells #[] 9)).cell? ⟨w.heap.size, 6, none⟩ = some (.slice ap n5 ac) := cell_turn x6 ((below_alloc w4 _).block _ (Array.getElem?_eq_some_iff.1 HX4.out).1)
  have k6 := cell_of_row W5 w3.heap.size 6 _ _ _ HY5.out
  have f6 := frozen_of_row W5 w3.heap.size 6 _ _ HY5.out
  go_wp2_with (refine wpList_bsliceS0 rfl rfl (Hid.out ?_))
  refine hid ?_
  go_wp2_with (refine wpList_load1 rfl 28 _ rfl ⟨w.heap.size, 6, none⟩ rfl (fun w => Try.isAgg28 w) (.slice ap n5 ac) xe6 (Hid.out ?_))
  refine wpList_append_runs rfl _ _ 28 28 rfl (.slice (some ⟨w4.heap.size, 0, none⟩) 0 0) (.slice ap n5 ac) (.slice q5 n5 d5) W5 rfl rfl HR5.out ?_
  go_upto_region 6 with fail
  clear k6 f6 x0 x1 x2 x3 x4 x5 x6 x7 x8 x9 x10 x11 x12 y0 y1 y2 y3 y4 y5 y6 y7 y8 y9 y10 y11 y12
  -- the replies
  generalize hw6 : W5.setCell _ _ = w6
  have hl4 : w.heap.size < w4.heap.size := (Array.getElem?_eq_some_iff.1 HX4.out).1
  have hs5 : w4.heap.size ≤ W5.heap.size := HB5.out.size
  have hs5' := hs4.out
  have hY6 : w6.heap[w3.heap.size]? = some (.cells (ltC x q5 d5 rp rc) 33 (0, 0)) := by
    rw [← hw6, heap_setCell_same W5 _ _ _ _ _ HY5.out, ← HN5.out]
    rfl
  have hk6 : ∀ k, k ≠ w3.heap.size → w6.heap[k]? = W5.heap[k]? := fun k hk => by rw [← hw6]; exact heap_setCell_other _ _ _ _ hk
  have hb6 : Below w3.heap.size W5 w6 := by rw [← hw6]; exact (Below.refl w3.heap.size W5).setCell (p := ⟨w3.heap.size, 6, none⟩) (Nat.le_refl _) _
  have hs6 := hb6.size
  have hX6 := (hk6 w.heap.size (by omega)).trans ((HB5.out.block w.heap.size hl4).trans HX4.out)
  have hc6 : Below w3.heap.size w4 w6 := (HB5.out.mono (by omega)).trans hb6
  have hXr6 : LtR (fun k => k < w.heap.size) w6 x ap rp := HXr4.out.turn (fun k hk hlt => ⟨hk, hc6.block k (by omega)⟩)
  have hT6 : TxR (fun k => w4.heap.size ≤ k) w6 q5 x.args := (own_tx HO5.out).turn (fun k hk hlt => ⟨hk, hk6 k (by omega)⟩)
  have HY6 := hid hY6
  have HX6 := hid hX6
  have HC6 := hid hc6
  have HT6 := hid hT6
  have HXr6 := hid hXr6
  have HS6 : Hid (w4.heap.size ≤ w6.heap.size ∧ W5.heap.size ≤ w6.heap.size ∧ w3.heap.size < w4.heap.size ∧ w.heap.size < w3.heap.size) := ⟨by omega, by omega, by omega, by omega⟩
  have HR6 : Hid (n5 ≠ 0 → ∃ g, q5 = some ⟨g, 0, none⟩ ∧ w4.heap.size ≤ g ∧ g < w6.heap.size ∧ ∃ Z, w6.heap[g]? = some (.cells Z 9 (0, 0)) ∧ ∀ j, j < n5 → ∃ s, Z[j]? = some (.string s) ∧ s.size ≤ 4611686018427387904) := fun hne => by
    obtain ⟨g, q, d, e, hh⟩ := own_info HO5.out
    obtain ⟨h1, h2, h3, Z, h4, h5⟩ := hh hne
    injection e with e1 e2 e3
    refine ⟨g, e1.trans h1, h2, by omega, Z, (hk6 g (by omega)).trans h4, fun j hj => ?_⟩
    have hjl : j < x.args.length := by have := HN5.out; omega
    exact ⟨⟨x.args[j].toArray⟩, h5 j (txt x.args[j]) (by rw [List.getElem?_map, List.getElem?_eq_getElem hjl]; rfl), Hsa.out _ (List.getElem_mem hjl)⟩
  clear hw6 hY6 hk6 hb6 hs6 hX6 hc6 hXr6 hT6 hl4 hs5 hs5' HO5 HB5 HY5 HXr4 HX4
  have hbr := below_alloc w6 (.cells #[] 31)
  obtain ⟨dd, hr⟩ := (HXr6.out.below hbr (Nat.le_refl _)).list
  obtain ⟨v7, W7, fl, hrun7, ho7, hb7, hst7, hrw7⟩ := copyR (B := w6.heap.size) hr (fun k hk => by have hk : k < w.heap.size := hk; have := HS6.out; omega) Hrc.out (by have := (SmL.of HFx.out.1).1; omega) hbr.size (World.ownsRow_lit w6 #[] 0 (Nat.le_refl _) (Nat.zero_le _) rfl)
  obtain ⟨n7, hn7⟩ : ∃ n, x.reply.list.length = n := ⟨_, rfl⟩
  have HN7 := hid hn7
  have hsh7 : ∃ q d, v7 = .slice q n7 d := by
    rcases ho7.2 with ⟨e, h0⟩ | ⟨g, cap, cur, e, _⟩
    · exact ⟨none, 0, by rw [e, ← hn7, h0]⟩
    · exact ⟨_, cap, by rw [e, hn7]⟩
  obtain ⟨q7, d7, rfl⟩ := hsh7
  rw [hn7] at hrun7 ho7 hst7 hrw7
  have HW7 := hid (hrw7 q7 d7 rfl)
  have HR7 := hid hrun7
  have HO7 := hid ho7
  have HSt7 := hid hst7
  have HB7 := hid (hbr.trans hb7)
  have x10 : (w6.alloc (.cells #[] 31)).cell? ⟨w.heap.size, 10, none⟩ = some (.slice rp n7 rc) := by
    rw [cell_of_row (w6.alloc (.cells #[] 31)) w.heap.size 10 _ _ _ ((hbr.block _ (Array.getElem?_eq_some_iff.1 HX6.out).1).trans HX6.out), ← hn7]
    rfl
  have hY7 := (HB7.out.block w3.heap.size (by have := HS6.out; omega)).trans HY6.out
  have HY7 := hid hY7
  have k10 := cell_of_row W7 w3.heap.size 10 _ _ _ hY7
  have f10 := frozen_of_row W7 w3.heap.size 10 _ _ hY7
  clear hn7 hrun7 ho7 hb7 hst7 hrw7 hbr hr hY7
  go_wp2_with (refine wpList_bsliceR0 rfl rfl (Hid.out ?_))
  refine hid ?_
  go_wp2_with (refine wpList_load1 rfl 29 _ rfl ⟨w.heap.size, 10, none⟩ rfl (fun w => Try.isAgg29 w) (.slice rp n7 rc) x10 (Hid.out ?_))
  refine wpList_append_runs rfl _ _ 29 29 rfl (.slice (some ⟨w6.heap.size, 0, none⟩) 0 0) (.slice rp n7 rc) (.slice q7 n7 d7) W7 rfl rfl HR7.out ?_
  go_upto_region 7 with fail
  -- sent
  generalize hw8 : W7.setCell _ _ = w8
  have hs7 : w6.heap.size ≤ W7.heap.size := HB7.out.size
  have hs7' := HS6.out
  have hY8 : w8.heap[w3.heap.size]? = some (.cells (ltC x q5 d5 q7 d7) 33 (0, 0)) := by
    rw [← hw8, heap_setCell_same W7 _ _ _ _ _ HY7.out, ← HN7.out]
    rfl
  have hk8 : ∀ k, k ≠ w3.heap.size → w8.heap[k]? = W7.heap[k]? := fun k hk => by rw [← hw8]; exact heap_setCell_other _ _ _ _ hk
  have hb8 : Below w3.heap.size W7 w8 := by rw [← hw8]; exact (Below.refl w3.heap.size W7).setCell (p := ⟨w3.heap.size, 10, none⟩) (Nat.le_refl _) _
  have hs8 := hb8.size
  have hc8 : Below w3.heap.size w4 w8 := HC6.out.trans ((HB7.out.mono (by omega)).trans hb8)
  have hX8 := (hc8.block w.heap.size (by omega)).trans ((HC6.out.block w.heap.size (by omega)).symm.trans HX6.out)
  have hT8 : TxR (fun k => w4.heap.size ≤ k) w8 q5 x.args := HT6.out.turn (fun k hk hlt => ⟨hk, (hk8 k (by omega)).trans (HB7.out.block k hlt)⟩)
  have hr8 : RowOf All w8 (Rp All w8 dd) q7 x.reply.list := HW7.out.turn (fun k hk hlt => ⟨trivial, hk8 k (by have hk : k < w.heap.size ∨ w6.heap.size ≤ k := hk; omega)⟩) (Nat.le_refl _)
  have hL8 : LtR All w8 x q5 q7 := ⟨hT8.turn (fun k _ _ => ⟨trivial, rfl⟩), ⟨dd, hr8⟩, HXr6.out.fit⟩
  have hS8 : Go1 LB w0 w8 b F1 R1 [] := ⟨C.keep HS4.out.lb (fun k hk => hc8.block k (by have := C.lt HS3.out.lb k hk; omega)) (by omega), HS4.out.low, HS4.out.bel.trans (hc8.mono HS3.out.bel.size)⟩
  have hl8 : ∀ k, F1 k ∨ R1 k → w0.heap.size ≤ k ∧ k < w3.heap.size := fun k hk => ⟨HS3.out.low k hk, C.lt HS3.out.lb k hk⟩
  have HL8 := hid hl8
  have HS8 : Hid (w3.heap.size + 1 ≤ w4.heap.size ∧ w4.heap.size ≤ w6.heap.size ∧ w6.heap.size ≤ w8.heap.size ∧ w.heap.size < w0.heap.size ∧ w0.heap.size ≤ w3.heap.size) := ⟨by omega, by omega, by omega, by omega, HS3.out.bel.size⟩
  have HR5 : Hid (∃ g, n5 ≠ 0 → q5 = some ⟨g, 0, none⟩ ∧ w4.heap.size ≤ g ∧ g < w6.heap.size ∧ ∃ Z, w8.heap[g]? = some (.cells Z 9 (0, 0)) ∧ ∀ j, j < n5 → ∃ s, Z[j]? = some (.string s) ∧ s.size ≤ 4611686018427387904) := by
    by_cases hne : n5 = 0
    · exact ⟨0, fun h => absurd hne h⟩
    obtain ⟨g, h1, h2, h3, Z, h4, h5⟩ := HR6.out hne
    refine ⟨g, fun _ => ⟨h1, h2, h3, Z, (hk8 g (by omega)).trans ((HB7.out.block g h3).trans h4), h5⟩⟩
  have HR7' : Hid (∃ g, n7 ≠ 0 → q7 = some ⟨g, 0, none⟩ ∧ w6.heap.size ≤ g ∧ g < w8.heap.size ∧ ∃ Z, w8.heap[g]? = some (.cells Z 31 (0, 0)) ∧ ∀ j, j < n7 → ∃ s, Z[j * 4 + 2]? = some (.string s) ∧ s.size ≤ 4611686018427387904) := by
    obtain ⟨g, q, d, e, hh⟩ := own_info HO7.out
    refine ⟨g, fun hne => ?_⟩
    obtain ⟨h1, h2, h3, Z, h4, h5⟩ := hh hne
    injection e with e1 e2 e3
    refine ⟨e1.trans h1, h2, by omega, Z, (hk8 g (by omega)).trans h4, fun j hj => ?_⟩
    have hjl : j < x.reply.list.length := by have := HN7.out; omega
    obtain ⟨gb, go, ge, _, hc⟩ := HW7.out (fun e => by rw [e] at hjl; simp at hjl)
    obtain ⟨_, _, _, _, c2, _⟩ := hc j hjl
    rw [e1.trans h1] at ge
    injection ge with ge
    injection ge with ge1 ge2
    subst ge1 ge2
    rw [cell_of_row _ _ _ _ _ _ h4, show 0 + j * 4 + 2 = j * 4 + 2 by omega] at c2
    exact ⟨_, c2, Hsl.out _ (List.getElem_mem hjl)⟩
  have HX8 : Hid (w8.heap[w.heap.size]? = some (.cells (ltC x ap ac rp rc) 33 (0, 0))) := by
    rw [← HN5.out] at hX8
    exact hX8
  have HXr8 : Hid (LtR (fun k => k < w.heap.size) w8 x ap rp) := HXr6.out.turn (fun k hk hlt => ⟨hk, (hk8 k (by have hk : k < w.heap.size := hk; omega)).trans (HB7.out.block k hlt)⟩)
  have HSe := hid (hS8.send C 0 1 x q5 d5 q7 d7 hL8 HFx.out ⟨by decide, by decide⟩ (by decide))
  obtain ⟨CA, hCA⟩ : ∃ C, ltC x q5 d5 q7 d7 = C := ⟨_, rfl⟩
  have hAs : CA.size = 13 := by rw [← hCA]; rfl
  have iA := infoLt CA hAs
  have HA6 : Hid (CA[6]? = some (.slice q5 n5 d5)) := by unfold Hid; rw [← hCA, ← HN5.out]; rfl
  have HA10 : Hid (CA[10]? = some (.slice q7 n7 d7)) := by unfold Hid; rw [← hCA, ← HN7.out]; rfl
  rw [hCA] at HSe hY8
  have HY8 := hid hY8
  clear hw8 hs7 hs7' hY8 hk8 hb8 hs8 hc8 hX8 hT8 hr8 hL8 hS8 hl8 hCA k10 f10 x10 HR6 HO7 HSt7 HB7 HW7 HR7 HXr6 HX6 HT6 HC6 HY7 HY6 HS4 HXr3 HX3
  go_wp2_with (refine wpList_load_row rfl 33 _ rfl w3.heap.size rfl 33 CA (0, 0) _ HY8.out Try.underlying33 rfl iA (Hid.out ?_); refine hid ?_)
  refine HSe.out.mono ?_; rintro e w9 ⟨rfl, hh⟩
  obtain ⟨F9, R9, h9, hk9⟩ := hh.out
  have hnF : ∀ k, k < w8.heap.size → (k < w0.heap.size ∨ w3.heap.size ≤ k) → w9.heap[k]? = w8.heap[k]? := fun k hk hc => hk9.block k hk (fun hf => by have := HL8.out k (.inl hf); omega)
  obtain ⟨hs81, hs82, hs83, hs84, hs85⟩ := HS8.out
  have HY9 := hid ((hnF w3.heap.size (by omega) (by omega)).trans HY8.out)
  have HX9 := hid ((hnF w.heap.size (by omega) (by omega)).trans HX8.out)
  have HXr9 : Hid (LtR (fun k => k < w.heap.size) w9 x ap rp) := HXr8.out.turn (fun k hk hlt => ⟨hk, hnF k hlt (by have hk : k < w.heap.size := hk; omega)⟩)
  obtain ⟨g5, hg5⟩ := HR5.out
  obtain ⟨g7, hg7⟩ := HR7'.out
  have H5 : Hid (n5 ≠ 0 → q5 = some ⟨g5, 0, none⟩ ∧ w4.heap.size ≤ g5 ∧ g5 < w6.heap.size ∧ ∃ Z, w9.heap[g5]? = some (.cells Z 9 (0, 0)) ∧ ∀ j, j < n5 → ∃ s, Z[j]? = some (.string s) ∧ s.size ≤ 4611686018427387904) := fun hne => by
    obtain ⟨h1, h2, h3, Z, h4, h5⟩ := hg5 hne
    exact ⟨h1, h2, h3, Z, (hnF g5 (by omega) (by omega)).trans h4, h5⟩
  have H7 : Hid (n7 ≠ 0 → q7 = some ⟨g7, 0, none⟩ ∧ w6.heap.size ≤ g7 ∧ g7 < w8.heap.size ∧ ∃ Z, w9.heap[g7]? = some (.cells Z 31 (0, 0)) ∧ ∀ j, j < n7 → ∃ s, Z[j * 4 + 2]? = some (.string s) ∧ s.size ≤ 4611686018427387904) := fun hne => by
    obtain ⟨h1, h2, h3, Z, h4, h5⟩ := hg7 hne
    exact ⟨h1, h2, h3, Z, (hnF g7 h3 (by omega)).trans h4, h5⟩
  have HS9 := hid h9
  have HK9 := hid hk9
  have HZ9 : Hid (w8.heap.size ≤ w9.heap.size) := hk9.like.size
  have y6 : w9.cell? ⟨w3.heap.size, 6, none⟩ = some (.slice q5 n5 d5) := by rw [cell_of_row _ _ _ _ _ _ HY9.out, HA6.out]
  have HN5' : Hid (n5 ≤ 100) := by unfold Hid; rw [← HN5.out]; exact HFx.out.2
  have HN7' : Hid (n7 ≤ 100) := by unfold Hid; rw [← HN7.out]; have := (SmL.of HFx.out.1).1; omega
  clear hh h9 hk9 hnF hg5 hg7 hs81 hs82 hs83 hs84 hs85 HSe HR5 HR7' HY8 HX8 HXr8
  go_upto_region 9 with fail
  have hS8 := HS8.out
  go_loopw [43] (fun v43 W => ∃ i : Nat, v43 = .int .i64 (i : Int) ∧ i ≤ n5 ∧ Hid (KN w4.heap.size w6.heap.size w9 W ∧ (n5 ≠ 0 → ∃ Z, W.heap[g5]? = some (.cells Z 9 (0, 0)) ∧ ∀ j, j < n5 → ∃ s, Z[j]? = some (.string s) ∧ s.size ≤ 4611686018427387904 + i))) (fun v43 _ => n5 - (intOf v43).toNat)
  case atStart => exact ⟨0, rfl, Nat.zero_le _, KN.refl _ _ _, fun hne => (H5.out hne).2.2.2⟩
  case round =>
    obtain ⟨i, rfl, hi, HK⟩ := hrel
    have HYr := hid ((HK.out.1.block w3.heap.size (by have := HZ9.out; omega) (.inl (by omega))).trans HY9.out)
    by_cases hlt : i < n5
    · have hiz : (i : Int) < (n5 : Int) := by omega
      obtain ⟨e5, lo5, hi5, _⟩ := H5.out (by omega)
      obtain ⟨Z, hZ, hs⟩ := HK.out.2 (by omega)
      obtain ⟨s, hsi, hsz⟩ := hs i hlt
      have y6 : wr.cell? ⟨w3.heap.size, 6, none⟩ = some (.slice (some ⟨g5, 0, none⟩) n5 d5) := by rw [cell_of_row _ _ _ _ _ _ HYr.out, HA6.out, e5]
      have z0 : wr.cell? ⟨g5, i, none⟩ = some (.string s) := (cell_of_row _ _ _ _ _ _ hZ).trans hsi
      have z1 : wr.frozen? ⟨g5, i, none⟩ = false := frozen_of_row _ _ i _ _ hZ
      have hi100 : n5 ≤ 100 := HN5'.out
      have HEnd : Hid (∀ u, (∃ t, u = .string t ∧ t.size ≤ 4611686018427387904 + (i + 1)) → KN w4.heap.size w6.heap.size w9 (wr.setCell ⟨g5, i, none⟩ u) ∧ (n5 ≠ 0 → ∃ Z, (wr.setCell ⟨g5, i, none⟩ u).heap[g5]? = some (.cells Z 9 (0, 0)) ∧ ∀ j, j < n5 → ∃ s, Z[j]? = some (.string s) ∧ s.size ≤ 4611686018427387904 + (i + 1))) := by
        rintro u ⟨t, rfl, ht⟩
        exact ⟨HK.out.1.cell lo5 hi5 i _, fun _ => ⟨_, heap_setCell_same _ _ _ _ _ _ hZ, strs_set (f := fun j => j) hs i t (by omega) ht⟩⟩
      clear hZ hs hsi e5 HK HYr
      go_wp2_with fail
      exact ⟨⟨i + 1, by go_num, by omega, HEnd.out _ ⟨_, rfl, by rw [ByteArray.size_append]; show s.size + 1 ≤ _; omega⟩⟩, by simp [intOf]; omega⟩
    obtain rfl : i = n5 := by omega
    obtain ⟨wz, hwz⟩ : ∃ W, W = wr := ⟨_, rfl⟩
    subst hwz
    have HZr : Hid (w8.heap.size ≤ wz.heap.size) := Nat.le_trans HZ9.out HK.out.1.like.size
    have HKa := hid HK.out.1
    have y10 : wz.cell? ⟨w3.heap.size, 10, none⟩ = some (.slice q7 n7 d7) := by rw [cell_of_row _ _ _ _ _ _ HYr.out, HA10.out]
    clear HK
    go_upto_region 14 with fail
    go_loopw [58] (fun v58 W => ∃ j : Nat, v58 = .int .i64 (j : Int) ∧ j ≤ n7 ∧ Hid (KN w6.heap.size w8.heap.size wz W ∧ (n7 ≠ 0 → ∃ Z, W.heap[g7]? = some (.cells Z 31 (0, 0)) ∧ ∀ k, k < n7 → ∃ s, Z[k * 4 + 2]? = some (.string s) ∧ s.size ≤ 4611686018427387904 + j))) (fun v58 _ => n7 - (intOf v58).toNat)
    case atStart =>
      refine ⟨0, rfl, Nat.zero_le _, KN.refl _ _ _, fun hne => ?_⟩
      obtain ⟨_, h2, h3, Z, h4, h5⟩ := H7.out hne
      refine ⟨Z, (HKa.out.block g7 (by have := HZ9.out; omega) (.inr h2)).trans h4, fun k hk => ?_⟩
      obtain ⟨s, hs, hb⟩ := h5 k hk
      exact ⟨s, hs, by omega⟩
    case round =>
      obtain ⟨j, rfl, hj, HK⟩ := hrel
      have HYs := hid ((HK.out.1.block w3.heap.size (by have := HZr.out; omega) (.inl (by omega))).trans HYr.out)
      by_cases hlt : j < n7
      · have hjz : (j : Int) < (n7 : Int) := by omega
        obtain ⟨e7, lo7, hi7, _⟩ := H7.out (by omega)
        obtain ⟨Z, hZ, hs⟩ := HK.out.2 (by omega)
        obtain ⟨s, hsi, hsz⟩ := hs j hlt
        have y10 : wr.cell? ⟨w3.heap.size, 10, none⟩ = some (.slice (some ⟨g7, 0, none⟩) n7 d7) := by rw [cell_of_row _ _ _ _ _ _ HYs.out, HA10.out, e7]
        have z0 : wr.cell? ⟨g7, j * 4 + 2, none⟩ = some (.string s) := (cell_of_row _ _ _ _ _ _ hZ).trans hsi
        have z1 : wr.frozen? ⟨g7, j * 4 + 2, none⟩ = false := frozen_of_row _ _ _ _ _ hZ
        have hj100 : n7 ≤ 100 := HN7'.out
        have HEnd : Hid (∀ u, (∃ t, u = .string t ∧ t.size ≤ 4611686018427387904 + (j + 1)) → KN w6.heap.size w8.heap.size wz (wr.setCell ⟨g7, j * 4 + 2, none⟩ u) ∧ (n7 ≠ 0 → ∃ Z, (wr.setCell ⟨g7, j * 4 + 2, none⟩ u).heap[g7]? = some (.cells Z 31 (0, 0)) ∧ ∀ k, k < n7 → ∃ s, Z[k * 4 + 2]? = some (.string s) ∧ s.size ≤ 4611686018427387904 + (j + 1))) := by
          rintro u ⟨t, rfl, ht⟩
          exact ⟨HK.out.1.cell lo7 hi7 _ _, fun _ => ⟨_, heap_setCell_same _ _ _ _ _ _ hZ, strs_set (f := fun k => k * 4 + 2) hs _ t (by omega) ht⟩⟩
        clear hZ hs hsi e7 HK HYs
        go_wp2_with fail
        exact ⟨⟨j + 1, by go_num, by omega, HEnd.out _ ⟨_, rfl, by rw [ByteArray.size_append]; show s.size + 1 ≤ _; omega⟩⟩, by simp [intOf]; omega⟩
      obtain rfl : j = n7 := by omega
      have HKn : Hid (KN w4.heap.size w8.heap.size w9 wr) := (HKa.out.mono (Nat.le_refl _) (by omega)).trans (HK.out.1.mono (by omega) (Nat.le_refl _))
      have HXs := hid ((HKn.out.block w.heap.size (by have := HZ9.out; omega) (.inl (by omega))).trans HX9.out)
      have HXrs : Hid (LtR (fun k => k < w.heap.size) wr x ap rp) := HXr9.out.turn (fun k hk hlt => ⟨hk, HKn.out.block k hlt (.inl (by have hk : k < w.heap.size := hk; omega))⟩)
      have HFs : Hid (∀ k, F9 k ∨ R9 k → k < w4.heap.size ∨ w8.heap.size ≤ k) := fun k hk => by
        rcases hk with hk | hk
        · exact (HK9.out.foot k hk).elim (fun h => .inl (by have := (HL8.out k (.inl h)).2; omega)) .inr
        · exact (HK9.out.rows k hk).elim (fun h => .inl (by have := (HL8.out k (.inr h)).2; omega)) .inr
      have HSs : Hid (Go1 LB w0 wr b F9 R9 [⟨0, 1, x⟩]) := ⟨C.keep HS9.out.lb (fun k hk => HKn.out.block k (C.lt HS9.out.lb k hk) (HFs.out k hk)) HKn.out.like.size, HS9.out.low, HKn.out.below HS9.out.bel (by omega) HS9.out.bel.size⟩
      have hhd : headV [⟨0, 1, x⟩] 0 1 = x ∧ (!(onV [⟨0, 1, x⟩] 0 1).isEmpty) = true := by simp [headV, onV, isOn]
      have HNx := hid (HSs.out.next C 0 1 ⟨by decide, by decide⟩ (by simp))
      rw [hhd.1, hhd.2] at HNx
      clear hhd HK HYr y10 HKa HZr H5 H7
      go_wp2_with fail
      refine HNx.out.mono ?_; rintro e w12 ⟨ap', ac', rp', rc', rfl, hh⟩
      obtain ⟨F12, R12, hx12, h12⟩ := hh.out
      obtain ⟨CB, hCB⟩ : ∃ C, ltC x ap' ac' rp' rc' = C := ⟨_, rfl⟩
      have hBs : CB.size = 13 := by rw [← hCB]; rfl
      have hBo : CB.all (·.oneCell') = true := by rw [← hCB]; exact ltC_one _ _ _ _ _
      have iB := infoLt CB hBs
      obtain ⟨w13, hw13⟩ : ∃ W, (w12.alloc (.cells zeroL 33)).setRow w12.heap.size CB = W := ⟨_, rfl⟩
      have HW13 := hid hw13
      have hr13 : w13.heap[w12.heap.size]? = some (.cells CB 33 (0, 0)) := by rw [← hw13]; exact setRow_heap _ _ _ _ _ _ (heap_alloc_new w12 _)
      have hb13 : Below w12.heap.size w12 w13 := by rw [← hw13]; exact below_setRow (below_alloc w12 _) (Nat.le_refl _) _
      have HR13 := hid hr13
      have HB13 := hid hb13
      have HCB := hid hCB
      have HX12 := hid hx12
      have HB12 : Hid (Below w0.heap.size w0 w12) := h12.bel
      rw [hCB]
      clear hh h12 hx12 hCB hw13 hr13 hb13 HNx
      go_wp2_with (refine wpList_store_row rfl 33 _ _ rfl w12.heap.size CB rfl rfl 33 zeroL (heap_alloc_new w12 _) iB (by rw [hBs]; rfl) hBo (Hid.out ?_))
      rw [HW13.out]
      refine hid ?_
      go_wp2_with fail
      refine (HAl.out w13).mono ?_; rintro e w14 ⟨rfl, hb⟩
      have hs12 : w0.heap.size ≤ w12.heap.size := HB12.out.size
      have hs13 : w12.heap.size < w13.heap.size := (Array.getElem?_eq_some_iff.1 HR13.out).1
      have hb14 : Below w0.heap.size w0 w14 := HB12.out.trans ((HB13.out.mono hs12).trans (hb.out.mono (by omega)))
      have hX14 := (hb14.block w.heap.size (by omega)).trans HX.out
      have hZ14 : w14.heap[w12.heap.size]? = some (.cells (ltC x ap' ac' rp' rc') 33 (0, 0)) := by rw [HCB.out]; exact (hb.out.block _ hs13).trans HR13.out
      have HSame := hid (rsameL_any x x ap ac rp rc ap' ac' rp' rc' w14 (HXr.out.below hb14 (by omega)).all (((HX12.out.all).below HB13.out (Nat.le_refl _)).below hb.out (Nat.le_refl _)) (by have := HFx.out.2; omega))
      unfold ltC at hZ14 HSame
      have HB14 := hid hb14
      clear hb14 hb
      have x0 := cell_of_row w14 (w.heap.size) 0 _ _ _ hX14
      have x1 := cell_of_row w14 (w.heap.size) 1 _ _ _ hX14
      have x2 := cell_of_row w14 (w.heap.size) 2 _ _ _ hX14
      have x3 := cell_of_row w14 (w.heap.size) 3 _ _ _ hX14
      have x4 := cell_of_row w14 (w.heap.size) 4 _ _ _ hX14
      have x5 := cell_of_row w14 (w.heap.size) 5 _ _ _ hX14
      have x6 := cell_of_row w14 (w.heap.size) 6 _ _ _ hX14
      have x7 := cell_of_row w14 (w.heap.size) 7 _ _ _ hX14
      have x8 := cell_of_row w14 (w.heap.size) 8 _ _ _ hX14
      have x9 := cell_of_row w14 (w.heap.size) 9 _ _ _ hX14
      have x10 := cell_of_row w14 (w.heap.size) 10 _ _ _ hX14
      have x11 := cell_of_row w14 (w.heap.size) 11 _ _ _ hX14
      have x12 := cell_of_row w14 (w.heap.size) 12 _ _ _ hX14
      have z0 := cell_of_row w14 (w12.heap.size) 0 _ _ _ hZ14
      have z1 := cell_of_row w14 (w12.heap.size) 1 _ _ _ hZ14
      have z2 := cell_of_row w14 (w12.heap.size) 2 _ _ _ hZ14
      have z3 := cell_of_row w14 (w12.heap.size) 3 _ _ _ hZ14
      have z4 := cell_of_row w14 (w12.heap.size) 4 _ _ _ hZ14
      have z5 := cell_of_row w14 (w12.heap.size) 5 _ _ _ hZ14
      have z6 := cell_of_row w14 (w12.heap.size) 6 _ _ _ hZ14
      have z7 := cell_of_row w14 (w12.heap.size) 7 _ _ _ hZ14
      have z8 := cell_of_row w14 (w12.heap.size) 8 _ _ _ hZ14
      have z9 := cell_of_row w14 (w12.heap.size) 9 _ _ _ hZ14
      have z10 := cell_of_row w14 (w12.heap.size) 10 _ _ _ hZ14
      have z11 := cell_of_row w14 (w12.heap.size) 11 _ _ _ hZ14
      have z12 := cell_of_row w14 (w12.heap.size) 12 _ _ _ hZ14
      clear hX14 hZ14
      go_wp2_with fail
      refine HSame.out.mono ?_; rintro e w15 ⟨bb, rfl, hh⟩
      obtain rfl : bb = true := hh.out.1.2 (by trivial)
      have HB15 := hid (HB14.out.trans (hh.out.2.mono HB14.out.size))
      clear hh
      go_wp2_with fail
      go_ret
      exact ⟨rfl, HB0.out.trans (HB15.out.mono (by omega))⟩
end Go.Proofs.Ytjcfbnhmljlkpaa
