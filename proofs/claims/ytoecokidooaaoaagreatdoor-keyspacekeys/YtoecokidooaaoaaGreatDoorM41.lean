/- KMeth, KDo0, KDo1, KFew. -/
import Derived.Test.YtoecokidooaaoaaGreatDoorM40
import Derived.Test.YtoecokidooaaoaaGreatDoorM34
import Derived.Test.YtoecokidooaaoaaGreatDoorM35
import Derived.Test.YtoecokidooaaoaaGreatDoorM36
import Derived.Test.YtoecokidooaaoaaGreatDoorM37
import Derived.Test.YtoecokidooaaoaaGreatDoorM38
import Derived.Test.YtoecokidooaaoaaGreatDoorM39
namespace Go.Proofs.YtoecokidooaaoaaGreatDoor
open Go.RowKit

theorem Sp.turn {B : Nat} {w w' : World} {b : Nat} {O A : Nat → Prop} {L : List EP} {room now : Int} (h : Sp B w b O A L room now) (k : Keep (fun k => k < B ∨ A k) w w') : Sp B w' b O A L room now := by
  obtain ⟨d, mb, Od, D, f, mem, soon, h1, h2, h3⟩ := h
  exact ⟨d, mb, Od, D, f, mem, soon, h1.turn k, h2, h3⟩
theorem Sp.below {B : Nat} {w w' : World} {b : Nat} {O A : Nat → Prop} {L : List EP} {room now : Int} (h : Sp B w b O A L room now) (k : Below w.heap.size w w') : Sp B w' b O A L room now := h.turn (Keep.of_below k)
theorem Sp.lt {B : Nat} {w : World} {b : Nat} {O A : Nat → Prop} {L : List EP} {room now : Int} (h : Sp B w b O A L room now) : ∀ k, A k → B ≤ k ∧ k < w.heap.size := by
  obtain ⟨d, mb, Od, D, f, mem, soon, h1, h2, h3⟩ := h
  exact h1.lt
theorem Sp.sub {B : Nat} {w : World} {b : Nat} {O A : Nat → Prop} {L : List EP} {room now : Int} (h : Sp B w b O A L room now) : ∀ k, O k → A k := by
  obtain ⟨d, mb, Od, D, f, mem, soon, h1, h2, h3⟩ := h
  exact h1.sub
theorem Sp.base {B : Nat} {w : World} {b : Nat} {O A : Nat → Prop} {L : List EP} {room now : Int} (h : Sp B w b O A L room now) : B ≤ w.heap.size := by
  obtain ⟨d, mb, Od, D, f, mem, soon, h1, h2, h3⟩ := h
  have := h1.blt
  omega
theorem Sp.srt {B : Nat} {w : World} {b : Nat} {O A : Nat → Prop} {L : List EP} {room now : Int} (h : Sp B w b O A L room now) : SrtL L := by
  obtain ⟨d, mb, Od, D, f, mem, soon, h1, h2, h3⟩ := h
  exact h2.srtL
/-- what the entries of a space are -/
structure Fine (L : List EP) (now : Int) : Prop where
  good : ∀ x ∈ L, x.1.length ≤ 1024 ∧ RtV x.2.1 ∧ 0 ≤ x.2.2 ∧ x.2.2 ≤ 1099511627776
  len : L.length ≤ 4096
  live : ∀ x ∈ L, x.2.2 = 0 ∨ now < x.2.2
  now : 0 ≤ now ∧ now ≤ 1099511627776
theorem Sp.fine {B : Nat} {w : World} {b : Nat} {O A : Nat → Prop} {L : List EP} {room now : Int} (h : Sp B w b O A L room now) : Fine L now := by
  obtain ⟨d, mb, Od, D, f, mem, soon, h1, h2, h3⟩ := h
  exact ⟨h2.good, h2.len, fun x hx => (h3.live x hx).imp id (·.1), h3.now⟩
theorem Live.put {L : List EP} {now soon : Int} (h : Live now soon L) (room : Int) (x : E8) (soon' : Int) (h1 : soon' = soon ∨ soon' = (if 0 < x.ends then min soon x.ends else soon)) (h2 : putEL L room now (pr8 x) = 0 → soon' = (if 0 < x.ends then min soon x.ends else soon)) : Live now soon' (putLL L room now (pr8 x)) := by
  have hs := h.soon
  have hle : soon' ≤ soon := by
    rcases h1 with h1 | h1
    · omega
    · rw [h1]; split <;> omega
  have h0 : 0 ≤ soon' := by
    rcases h1 with h1 | h1
    · omega
    · rw [h1]; split <;> omega
  refine ⟨fun y hy => ?_, h.now, by omega⟩
  unfold putLL at hy
  split at hy
  · rename_i he
    rw [insL_eq] at hy
    rcases insR_mem.1 hy with rfl | hy
    · have hna : ¬ argBadP (pr8 x) now := fun hb => by rw [putEL_arg hb] at he; cases he
      unfold argBadP at hna
      dsimp only at hna ⊢
      by_cases hz : x.ends = 0
      · exact .inl hz
      · refine .inr ⟨by omega, ?_⟩
        rw [h2 he, if_pos (by omega)]
        omega
    · exact (h.live y (delL_mem.1 hy).1).imp id (fun k => ⟨k.1, by omega⟩)
  · exact (h.live y hy).imp id (fun k => ⟨k.1, by omega⟩)
/-- Put -/
theorem sp_put {B : Nat} {w : World} {b : Nat} {O A : Nat → Prop} {L : List EP} {room now : Int} (h : Sp B w b O A L room now) (x : E8) (hx : Arg8 x) (hV : Lies (Off O) w x) :
    Calls Tryz.prog 22 #[ptr b, ev x] w fun e w' => e = .returned (.int .i64 (putEL L room now (pr8 x))) ∧ Hid (∃ O' A', Sp B w' b O' A' (putLL L room now (pr8 x)) room now ∧ Stp w w' O O' A A') := by
  obtain ⟨d, mb, Od, D, f, mem, soon, h1, h2, h3⟩ := h
  have hno : ∀ e, putEL L room now (pr8 x) = e → e ≠ 0 → Refused w b x e → Calls Tryz.prog 22 #[ptr b, ev x] w fun e w' => e = .returned (.int .i64 (putEL L room now (pr8 x))) ∧ Hid (∃ O' A', Sp B w' b O' A' (putLL L room now (pr8 x)) room now ∧ Stp w w' O O' A A') := fun e he hne hr => by
    refine hr.mono fun r w' ⟨hr, hb⟩ => ⟨by rw [hr, he], O, A, ⟨d, mb, Od, D, f, mem, soon, h1.below hb.out, ?_, ?_⟩, Stp.below hb.out O A⟩
    · unfold putLL
      rw [he, if_neg hne]
      exact h2
    · unfold putLL
      rw [he, if_neg hne]
      exact h3
  have hyes : PutSp B w b d mb O A L room now soon x → Calls Tryz.prog 22 #[ptr b, ev x] w fun e w' => e = .returned (.int .i64 (putEL L room now (pr8 x))) ∧ Hid (∃ O' A', Sp B w' b O' A' (putLL L room now (pr8 x)) room now ∧ Stp w w' O O' A A') := fun hp => by
    refine hp.mono fun r w' ⟨hr, hh⟩ => ⟨hr, ?_⟩
    obtain ⟨O', A', Od', D', f', mem', soon', k1, k2, k3, k4, k5⟩ := hh.out
    exact ⟨O', A', ⟨d, mb, Od', D', f', mem', soon', k1, k2, h3.put room x soon' k3 k4⟩, k5⟩
  by_cases c1 : 1024 < x.key.length
  · exact hno 1 (putEL_arg (.inl c1)) (by decide) (kput_key h1 x hx c1)
  by_cases c2 : x.ends < 0
  · exact hno 1 (putEL_arg (.inr (.inl c2))) (by decide) (kput_low h1 x c1 c2)
  by_cases c3 : 1099511627776 < x.ends
  · exact hno 1 (putEL_arg (.inr (.inr (.inl c3)))) (by decide) (kput_far h1 x c1 c2 c3)
  by_cases c4 : 0 < x.ends ∧ x.ends ≤ now
  · exact hno 1 (putEL_arg (.inr (.inr (.inr c4)))) (by decide) (kput_over h1 x c1 c2 c3 c4)
  have hab : ¬ argBadP (pr8 x) now := by unfold argBadP; dsimp only; omega
  cases c5 : rightB x.m with
  | false => exact hno 100 (putEL_form hab c5) (by decide) (kput_form h1 x hx c1 c2 c3 c4 hV.vi c5)
  | true =>
    cases c6 : (Dc.getL x.key D.L).isSome with
    | true =>
      by_cases c7 : room < mem + (tk x : Int) - (tk ((Dc.getL x.key D.L).getD Dc.DE.e80) : Int)
      · by_cases c8 : mem < mem + (tk x : Int) - (tk ((Dc.getL x.key D.L).getD Dc.DE.e80) : Int)
        · exact hyes (kput_p1 h1 h2 x hx hV c1 c2 c3 c4 c5 c6 ⟨c7, c8⟩)
        · exact hyes (kput_p2 h1 h2 x hx hV c1 c2 c3 c4 c5 c6 ⟨c7, c8⟩)
      · exact hyes (kput_p3 h1 h2 x hx hV c1 c2 c3 c4 c5 c6 c7)
    | false =>
      by_cases c7 : 4096 ≤ L.length
      · exact hyes (kput_p4 h1 h2 x hx hV c1 c2 c3 c4 c5 c6 c7)
      · by_cases c8 : room < mem + (tk x : Int)
        · exact hyes (kput_p5 h1 h2 x hx hV c1 c2 c3 c4 c5 c6 c7 c8)
        · exact hyes (kput_p6 h1 h2 x hx hV c1 c2 c3 c4 c5 c6 c7 c8)
/-- Delete -/
theorem sp_del {B : Nat} {w : World} {b : Nat} {O A : Nat → Prop} {L : List EP} {room now : Int} (h : Sp B w b O A L room now) (k : Nm) (hk : k.length ≤ 140737488351232) :
    Calls Tryz.prog 23 #[ptr b, txt k] w fun e w' => e = .returned (.bool (getL k L).isSome) ∧ Hid (∃ O' A', Sp B w' b O' A' (delL k L) room now ∧ Stp w w' O O' A A') := by
  obtain ⟨d, mb, Od, D, f, mem, soon, h1, h2, h3⟩ := h
  refine (kdel_any h1 h2 k hk).mono fun e w' ⟨he, hh⟩ => ⟨he, ?_⟩
  obtain ⟨O', A', Od', D', f', mem', k1, k2, k3⟩ := hh.out
  exact ⟨O', A', ⟨d, mb, Od', D', f', mem', soon, k1, k2, ⟨fun x hx => h3.live x (delL_mem.1 hx).1, h3.now, h3.soon⟩⟩, k3⟩
/-- Tick -/
theorem sp_tick {B : Nat} {w : World} {b : Nat} {O A : Nat → Prop} {L : List EP} {room now : Int} (h : Sp B w b O A L room now) (t : Int) :
    Calls Tryz.prog 15 #[ptr b, .int .i64 t] w fun e w' => e = .returned (.int .i64 ((L.length : Int) - ((tickL (tickN now t) L).length : Int))) ∧ Hid (∃ O' A', Sp B w' b O' A' (tickL (tickN now t) L) room (tickN now t) ∧ Stp w w' O O' A A') := by
  obtain ⟨d, mb, Od, D, f, mem, soon, h1, h2, h3⟩ := h
  have fin : ∀ w', TickPost B w b d mb O A L room (tickN now t) w' → ∃ O' A', Sp B w' b O' A' (tickL (tickN now t) L) room (tickN now t) ∧ Stp w w' O O' A A' := fun w' ⟨O', A', Od', D', f', mem', soon', k1, k2, k3, k4⟩ => ⟨O', A', ⟨d, mb, Od', D', f', mem', soon', k1, k2, k3⟩, k4⟩
  by_cases hT : tickN now t < soon
  · exact (ktick_no h1 h2 h3 t _ rfl hT).mono fun e w' ⟨he, hh⟩ => ⟨he, fin w' hh.out⟩
  · exact (ktick_yes h1 h2 h3 t _ rfl hT).mono fun e w' ⟨he, hh⟩ => ⟨he, fin w' hh.out⟩
/-- Get -/
theorem sp_get {B : Nat} {w : World} {b : Nat} {O A : Nat → Prop} {L : List EP} {room now : Int} (h : Sp B w b O A L room now) (k : Nm) (hk : k.length ≤ 140737488351232) :
    Calls Tryz.prog 21 #[ptr b, txt k] w fun e w' => ∃ y : E8, e = .returned (.tuple #[ev y, .bool (getL k L).isSome]) ∧ Hid (pr8 y = (getL k L).getD ([], zeroV, 0) ∧ OwnEn w.heap.size w' y ∧ Below w.heap.size w w') := by
  obtain ⟨d, mb, Od, D, f, mem, soon, h1, h2, h3⟩ := h
  exact kget_any h1 h2 k hk
theorem sp_now {B : Nat} {w : World} {b : Nat} {O A : Nat → Prop} {L : List EP} {room now : Int} (h : Sp B w b O A L room now) : Calls Tryz.prog 26 #[ptr b] w fun e w' => e = .returned (.int .i64 now) ∧ Hid (Below w.heap.size w w') := by
  obtain ⟨d, mb, Od, D, f, mem, soon, h1, h2, h3⟩ := h
  exact know_any h1
theorem sp_mem {B : Nat} {w : World} {b : Nat} {O A : Nat → Prop} {L : List EP} {room now : Int} (h : Sp B w b O A L room now) : Calls Tryz.prog 25 #[ptr b] w fun e w' => e = .returned (.int .i64 (memL L : Int)) ∧ Hid (Below w.heap.size w w') := by
  obtain ⟨d, mb, Od, D, f, mem, soon, h1, h2, h3⟩ := h
  rw [← h2.mem]
  exact kmem_any h1
theorem sp_len {B : Nat} {w : World} {b : Nat} {O A : Nat → Prop} {L : List EP} {room now : Int} (h : Sp B w b O A L room now) : Calls Tryz.prog 27 #[ptr b] w fun e w' => e = .returned (.int .i64 L.length) ∧ Hid (Below w.heap.size w w') := by
  obtain ⟨d, mb, Od, D, f, mem, soon, h1, h2, h3⟩ := h
  rw [← h2.dlen]
  exact klen_any h1
theorem sp_count {B : Nat} {w : World} {b : Nat} {O A : Nat → Prop} {L : List EP} {room now : Int} (h : Sp B w b O A L room now) (n : Int) (hn : In64 n) : Calls Tryz.prog 14 #[ptr b, .int .i64 n] w fun e w' => e = .returned (.int .i64 (slotL n L).length) ∧ Hid (Below w.heap.size w w') := by
  obtain ⟨d, mb, Od, D, f, mem, soon, h1, h2, h3⟩ := h
  rw [← h2.slots]
  exact kcount_any h1 n hn
theorem sp_keys {B : Nat} {w : World} {b : Nat} {O A : Nat → Prop} {L : List EP} {room now : Int} (h : Sp B w b O A L room now) (n most : Int) (hn : In64 n) : Calls Tryz.prog 12 #[ptr b, .int .i64 n, .int .i64 most] w fun e w' => ∃ q c, e = .returned (.slice q (keysL n most L).length c) ∧ Hid (Own w.heap.size w' (.slice q (keysL n most L).length c) (keysL n most L) ∧ Below w.heap.size w w') := by
  obtain ⟨d, mb, Od, D, f, mem, soon, h1, h2, h3⟩ := h
  unfold keysL
  rw [← h2.slots]
  refine kkeys_any h1 n most hn ?_
  rw [h2.slots]
  have : (slotL n L).length ≤ L.length := by unfold slotL; rw [List.length_map]; exact List.length_filter_le _ _
  have := h2.len
  omega
theorem sp_all {B : Nat} {w : World} {b : Nat} {O A : Nat → Prop} {L : List EP} {room now : Int} (h : Sp B w b O A L room now) : Calls Tryz.prog 17 #[ptr b] w fun e w' => ∃ q c, e = .returned (.slice q L.length c) ∧ Hid (∃ R : List E8, Rde (fun k => w.heap.size ≤ k) w' q c R ∧ R.map pr8 = L ∧ Below w.heap.size w w') := by
  obtain ⟨d, mb, Od, D, f, mem, soon, h1, h2, h3⟩ := h
  exact kall_any h1 h2
theorem sp_clone {B : Nat} {w : World} {b : Nat} {O A : Nat → Prop} {L : List EP} {room now : Int} (h : Sp B w b O A L room now) : Calls Tryz.prog 19 #[ptr b] w fun e w' => ∃ b', e = .returned (ptr b') ∧ Hid (∃ O' A', Sp B w' b' O' A' L room now ∧ (∀ k, O' k → w.heap.size ≤ k) ∧ Grew w A A' ∧ (∀ k, A' k → ¬ O k) ∧ Below w.heap.size w w') := by
  obtain ⟨d, mb, Od, D, f, mem, soon, h1, h2, h3⟩ := h
  refine (kclone_any h1 h2.small2).mono fun e w' ⟨b', he, hh⟩ => ⟨b', he, ?_⟩
  obtain ⟨d', mb', O', A', Od', k1, k2, k3, k4⟩ := hh.out
  refine ⟨O', A', ⟨d', mb', Od', D, f, mem, soon, k1, h2, h3⟩, k2, fun k hk => (k3 k hk).imp (·.1) id, fun k hk ho => ?_, k4⟩
  rcases k3 k hk with h | h
  · exact h.2 ho
  · have := (h1.lt k (h1.sub k ho)).2
    omega

end Go.Proofs.YtoecokidooaaoaaGreatDoor

namespace Go.Proofs.YtoecokidooaaoaaGreatDoor
open Go.RowKit

theorem Lies.keepB {P Q : Nat → Prop} {w w' : World} {x : E8} (h : Lies P w x) (k : Keep P w w') (hq : ∀ i, i < w.heap.size → P i → Q i) : Lies Q w' x := by
  refine ⟨(h.keep (Q := fun _ => True) k (fun _ _ => trivial)).vi, fun hne a ha => ?_, fun hne a ha => ?_⟩
  · obtain ⟨b, o, e, hc⟩ := h.vi.pairs.prs hne
    have hp := h.pairs hne a ha
    rw [ha] at e
    injection e with e
    rw [e] at hp ⊢
    exact hq b (block_lt_of_cell (hc 0 (List.length_pos_iff.2 hne)).1) hp
  · obtain ⟨b, o, e, hc⟩ := h.vi.items.strs hne
    have hp := h.items hne a ha
    rw [ha] at e
    injection e with e
    rw [e] at hp ⊢
    exact hq b (block_lt_of_cell (hc 0 (List.length_pos_iff.2 hne))) hp
theorem Rde.keepB {P Q : Nat → Prop} {w w' : World} {p : Option Addr} {c : Nat} {R : List E8} (h : Rde P w p c R) (k : Keep P w w') (hq : ∀ i, i < w.heap.size → P i → Q i) : Rde Q w' p c R := by
  refine ⟨fun hne => ?_, h.nil, h.cap, fun x hx => (h.lies x hx).keepB k hq⟩
  obtain ⟨b, o, rfl, hp, hl, hc⟩ := h.at8 hne
  refine ⟨b, o, rfl, hq _ hl hp, Nat.lt_of_lt_of_le hl k.size, fun i hi j hj => ?_⟩
  rw [World.cell?_of_block (w := w) (k.block b hl hp)]
  exact hc i hi j hj
theorem set3_onlyB (W : World) (b : Nat) (v0 v1 v2 : Value) : OnlyB b W (((W.setCell ⟨b, 0, none⟩ v0).setCell ⟨b, 1, none⟩ v1).setCell ⟨b, 2, none⟩ v2) := by
  refine ⟨rfl, rfl, rfl, by simp, fun k hk => ?_⟩
  rw [heap_setCell_other _ _ _ _ hk, heap_setCell_other _ _ _ _ hk, heap_setCell_other _ _ _ _ hk]
theorem set3_rs {W : World} {b : Nat} {c0 c1 c2 : Value} (v0 v1 v2 : Value) (h : W.heap[b]? = some (.cells #[c0, c1, c2] 26 (0, 0))) : (((W.setCell ⟨b, 0, none⟩ v0).setCell ⟨b, 1, none⟩ v1).setCell ⟨b, 2, none⟩ v2).heap[b]? = some (.cells #[v0, v1, v2] 26 (0, 0)) :=
  heap_setCell_same _ b 2 _ _ _ (heap_setCell_same _ b 1 _ _ _ (heap_setCell_same _ b 0 _ _ _ h))
/-- a call -/
structure OpK where
  kind : Int
  n : Int
  e : E8
abbrev OpK.cells (o : OpK) : Array Value := #[.int .i64 o.kind, .int .i64 o.n, txt o.e.key, .int .i64 o.e.m.kind, txt o.e.m.text, .slice o.e.pp o.e.m.pairs.length o.e.pc, .slice o.e.ip o.e.m.items.length o.e.ic, .int .i64 o.e.m.px, .int .i64 o.e.m.py, .int .i64 o.e.ends]
abbrev opV (o : OpK) : Value := .agg o.cells
/-- the three blocks that does begins with -/
abbrev bx3 (w : World) (p : Option Addr) (n c : Nat) (room now : Int) (o : OpK) : World := ((w.alloc (sob p n c room now)).alloc (.cells o.cells 52)).alloc (sob none 0 0 0 0)
structure Bx3 (w : World) (p : Option Addr) (n c : Nat) (room now : Int) (o : OpK) (W : World) : Prop where
  bel : Below w.heap.size w W
  r : W.heap[w.heap.size]? = some (.cells #[.slice p n c, .int .i64 room, .int .i64 now] 26 (0, 0))
  o : W.heap[w.heap.size + 1]? = some (.cells o.cells 52 (0, 0))
  t : W.heap[w.heap.size + 2]? = some (.cells #[.slice none 0 0, .int .i64 0, .int .i64 0] 26 (0, 0))
  sz : w.heap.size + 3 ≤ W.heap.size
theorem bx3_at (w : World) (p : Option Addr) (n c : Nat) (room now : Int) (o : OpK) : Bx3 w p n c room now o (bx3 w p n c room now o) := by
  have h1 : (w.alloc (sob p n c room now)).heap.size = w.heap.size + 1 := by simp
  have h2 : ((w.alloc (sob p n c room now)).alloc (.cells o.cells 52)).heap.size = w.heap.size + 2 := by simp
  refine ⟨((below_alloc w _).alloc (by simp) _).alloc (by simp; omega) _, ?_, ?_, ?_, by simp⟩
  · exact ((heap_alloc_old _ _ (by omega)).trans (heap_alloc_old _ _ (by omega))).trans (heap_alloc_new w _)
  · have := heap_alloc_new (w.alloc (sob p n c room now)) (.cells o.cells 52)
    rw [h1] at this
    exact (heap_alloc_old _ _ (by omega)).trans this
  · have := heap_alloc_new ((w.alloc (sob p n c room now)).alloc (.cells o.cells 52)) (sob none 0 0 0 0)
    rw [h2] at this
    exact this
theorem Bx3.go {w : World} {p : Option Addr} {n c : Nat} {room now : Int} {o : OpK} {W W' : World} (h : Bx3 w p n c room now o W) (hb : Below W.heap.size W W') : Bx3 w p n c room now o W' := by
  have := h.sz
  exact ⟨h.bel.trans (hb.mono h.bel.size), (hb.block _ (by omega)).trans h.r, (hb.block _ (by omega)).trans h.o, (hb.block _ (by omega)).trans h.t, Nat.le_trans h.sz hb.size⟩
theorem op_facts {w : World} {b : Nat} {o : OpK} (h : w.heap[b]? = some (.cells o.cells 52 (0, 0))) :
    w.cell? ⟨b, 0, none⟩ = some (.int .i64 o.kind) ∧ w.cell? ⟨b, 1, none⟩ = some (.int .i64 o.n) ∧ w.cell? ⟨b, 2, none⟩ = some (txt o.e.key) ∧ w.cell? ⟨b, 3, none⟩ = some (.int .i64 o.e.m.kind) ∧ w.cell? ⟨b, 4, none⟩ = some (txt o.e.m.text) ∧ w.cell? ⟨b, 5, none⟩ = some (.slice o.e.pp o.e.m.pairs.length o.e.pc) ∧ w.cell? ⟨b, 6, none⟩ = some (.slice o.e.ip o.e.m.items.length o.e.ic) ∧ w.cell? ⟨b, 7, none⟩ = some (.int .i64 o.e.m.px) ∧ w.cell? ⟨b, 8, none⟩ = some (.int .i64 o.e.m.py) ∧ w.cell? ⟨b, 9, none⟩ = some (.int .i64 o.e.ends) :=
  ⟨cell_of_row w b 0 _ _ _ h, cell_of_row w b 1 _ _ _ h, cell_of_row w b 2 _ _ _ h, cell_of_row w b 3 _ _ _ h, cell_of_row w b 4 _ _ _ h, cell_of_row w b 5 _ _ _ h, cell_of_row w b 6 _ _ _ h, cell_of_row w b 7 _ _ _ h, cell_of_row w b 8 _ _ _ h, cell_of_row w b 9 _ _ _ h⟩
/-- what a call does to the list -/
noncomputable def doL (L : List EP) (room now : Int) (o : OpK) : List EP := if o.kind = 0 then putLL L room now (pr8 o.e) else if o.kind = 1 then delL o.e.key L else if o.kind = 2 then tickL (tickN now o.n) L else L
def doN (now : Int) (o : OpK) : Int := if o.kind = 2 then tickN now o.n else now
/-- a space and the document's, side by side -/
structure Both (B : Nat) (w : World) (b : Nat) (O A P : Nat → Prop) (L : List EP) (room now : Int) (p : Option Addr) (c n : Nat) : Prop where
  sp : Sp B w b O A L room now
  doc : ∃ R : List E8, Rde (fun j => ¬ O j ∧ P j) w p c R ∧ R.map pr8 = L
  len : n = L.length
/-- what is left to say behind the store of the answer -/
theorem does_fin {B : Nat} {w w4 W5 w6 w7 : World} {b : Nat} {O A P O' A' : Nat → Prop} {L' : List EP} {room now' : Int} {q : Option Addr} {d : Nat} {R' : List E8} {p : Option Addr} {n c : Nat} {now : Int} {o : OpK}
    (h4 : Bx3 w p n c room now o w4) (hlt : ∀ k, A k → k < w.heap.size) (hsub : ∀ k, O k → A k) (hB : B ≤ w.heap.size) (hR : Rde (fun j => ((¬ O j ∧ P j) ∧ j < w.heap.size) ∨ w.heap.size + 3 ≤ j) w4 q d R') (hP : ∀ j, w.heap.size ≤ j → P j) (h5 : Below w4.heap.size w4 W5)
    (hS : Sp B w6 b O' A' L' room now') (hst : Stp W5 w6 O O' A A') (h7 : OnlyB (w.heap.size + 2) w6 w7) (hm : R'.map pr8 = L') :
    ∃ O' A', Both B w7 b O' A' P L' room now' q d L'.length ∧ Stp w w7 O O' A A' := by
  have hz := h4.sz
  have hz5 := h5.size
  have hO : ∀ j, w.heap.size ≤ j → ¬ O j := fun j hj ho => by have := hlt j (hsub j ho); omega
  have hA' : ¬ A' (w.heap.size + 2) := fun ha => by
    rcases hst.a _ ha with h | h
    · have := hlt _ h; omega
    · omega
  have hO' : ∀ j, j < W5.heap.size → ¬ O j → ¬ O' j := fun j hj hn ho => by
    rcases hst.o j ho with h | h
    · exact hn h
    · omega
  refine ⟨O', A', ⟨hS.turn (h7.keep (fun h => by rcases h with h | h; omega; exact hA' h)), ⟨R', ?_, hm⟩, rfl⟩, ?_⟩
  · have r5 := hR.keepB (Q := fun j => (¬ O j ∧ P j ∧ j < W5.heap.size) ∧ j ≠ w.heap.size + 2) (w' := W5) (Keep.of_below h5) (fun i hi hp => by
      rcases hp with ⟨⟨h1, h2⟩, h3⟩ | h3
      · exact ⟨⟨h1, h2, by omega⟩, by omega⟩
      · exact ⟨⟨hO i (by omega), hP i (by omega), by omega⟩, by omega⟩)
    have r6 := r5.keepB (Q := fun j => (¬ O' j ∧ P j) ∧ j ≠ w.heap.size + 2) (w' := w6) (hst.keep.mono (fun i hi => hi.1.1)) (fun i hi hp => ⟨⟨hO' i hi hp.1.1, hp.1.2.1⟩, hp.2⟩)
    exact r6.keepB (h7.keep (fun h => h.2 rfl)) (fun i _ hp => hp.1)
  · have s5 : Stp w W5 O O A A := Stp.below (h4.bel.trans (h5.mono h4.bel.size)) O A
    have s6 := s5.trans hst
    exact ⟨⟨h7.os.trans s6.keep.os, h7.tape.trans s6.keep.tape, h7.output.trans s6.keep.output, Nat.le_trans s6.keep.size (Nat.le_of_eq h7.size.symm), fun k hk hn => (h7.block k (by omega)).trans (s6.keep.block k hk hn)⟩, s6.o, s6.a⟩

end Go.Proofs.YtoecokidooaaoaaGreatDoor

namespace Go.Proofs.YtoecokidooaaoaaGreatDoor
open Go.RowKit

theorem DoIs_len {L : List EP} {R : List E8} (h : R.map pr8 = L) : R.length = L.length := by rw [← h]; simp
abbrev DoIs (B : Nat) (w : World) (b : Nat) (O A P : Nat → Prop) (L : List EP) (room now : Int) (p : Option Addr) (c : Nat) (o : OpK) : Prop :=
  Calls Tryz.prog 20 #[ptr b, sv p L.length c room now, opV o] w fun e w' => ∃ q d, e = .returned (.tuple #[sv q (doL L room now o).length d room (doN now o), .bool true]) ∧ Hid (∃ O' A', Both B w' b O' A' P (doL L room now o) room (doN now o) q d (doL L room now o).length ∧ Stp w w' O O' A A')
theorem ok_of {L : List EP} {now : Int} {R : List E8} (h : Fine L now) (hm : R.map pr8 = L) : ∀ y ∈ R, Ok8 y := fun y hy => by
  have := h.good (pr8 y) (by rw [← hm]; exact List.mem_map_of_mem hy)
  exact ⟨by have := this.1; dsimp only at this; omega, rt_short this.2.1⟩
set_option maxHeartbeats 4000000 in
set_option maxRecDepth 100000 in
theorem does_put {B : Nat} {w : World} {b : Nat} {O A P : Nat → Prop} {L : List EP} {room now : Int} {p : Option Addr} {c : Nat} (h : Both B w b O A P L room now p c L.length) (hP : ∀ j, w.heap.size ≤ j → P j) (o : OpK) (hk : o.kind = 0) (hx : Arg8 o.e) (hs : Ok8 o.e) (hV : Lies (fun j => ¬ O j ∧ P j) w o.e) : DoIs B w b O A P L room now p c o := by
  have e1 : doL L room now o = putLL L room now (pr8 o.e) := by simp [doL, hk]
  have e2 : doN now o = now := by simp [doN, hk]
  unfold DoIs
  rw [e1, e2]
  obtain ⟨hsp, ⟨R, hR, hm⟩, -⟩ := h
  have hlen := DoIs_len hm
  have hb3 := bx3_at w p L.length c room now o
  have hR3 : Rde (fun j => (¬ O j ∧ P j) ∧ j < w.heap.size) (bx3 w p L.length c room now o) p c R := hR.keepB (Keep.of_below hb3.bel) (fun i hi hp => ⟨hp, hi⟩)
  have hV3 : Lies (fun j => (¬ O j ∧ P j) ∧ j < w.heap.size) (bx3 w p L.length c room now o) o.e := hV.keepB (Keep.of_below hb3.bel) (fun i hi hp => ⟨hp, hi⟩)
  have HQ := qput_any _ p c R room now o.e _ hR3 hs hV3 (by have := hsp.fine.len; omega) (ok_of hsp.fine hm)
  unfold PutIs at HQ
  rw [hlen, show putE R room now o.e = putEL L room now (pr8 o.e) by rw [putE_map, hm]] at HQ
  have hmR : (putR R room now o.e).map pr8 = putLL L room now (pr8 o.e) := by rw [put_map, hm]
  have hlR := DoIs_len hmR
  rw [hlR] at HQ
  have HQ := hid HQ
  have HB3 := hid hb3
  have HSp := hid hsp
  have HPut := hid (fun W (hS : Sp B W b O A L room now) (hv : Lies (Off O) W o.e) => sp_put hS o.e hx hv)
  have HV := hid hV
  have HM := hid hmR
  have HP := hid hP
  have HLt := hid (fun k hk => (hsp.lt k hk).2)
  have HSub := hid hsp.sub
  have HBs := hid hsp.base
  obtain ⟨a0, a1, a2⟩ := sp_facts hb3.r
  obtain ⟨o0, o1, o2, o3, o4, o5, o6, o7, o8, o9⟩ := op_facts hb3.o
  obtain ⟨t0, t1, t2⟩ := sp_facts hb3.t
  generalize putEL L room now (pr8 o.e) = E at *
  generalize putLL L room now (pr8 o.e) = L' at *
  obtain ⟨kind, n, x⟩ := o
  dsimp only at *
  subst hk
  clear hsp hR hb3 hR3 hV3 hV hP hmR e1 e2 hs hx
  go_enter Tryz.func20, Tryz.ntmps20
  go_wp2_with fail
  refine HQ.out.mono ?_; rintro e w4 ⟨q, d, rfl, hh⟩
  have hB4 := HB3.out.go hh.out.2
  have hba := below_alloc w4 (sob q L'.length d room now)
  have hB5 := hB4.go hba
  have HB4 := hid hB4
  have HB5 := hid hB5
  have HR4 : Hid (Rde (fun j => ((¬ O j ∧ P j) ∧ j < w.heap.size) ∨ w.heap.size + 3 ≤ j) w4 q d (putR R room now x)) := hh.out.1.keep (Keep.refl _ _) (fun i hi => hi.imp id (fun h => by have : (bx3 w p L.length c room now ⟨0, n, x⟩).heap.size = w.heap.size + 3 := (by simp); omega))
  have HT5 := hid (heap_alloc_new w4 (sob q L'.length d room now))
  have HW5 := hid hba.drew
  have hS5 := HSp.out.below hB5.bel.drew
  have HP5 := hid (HPut.out (w4.alloc (sob q L'.length d room now)).drew hS5 ((HV.out.below hB5.bel.drew).keep (Keep.refl _ _) (fun _ h => h.1)))
  obtain ⟨r0, r1, r2⟩ := sp_facts HT5.out
  obtain ⟨u0, u1, u2, u3, u4, u5, u6, u7, u8, u9⟩ := op_facts hB5.o
  have HZ5 : Hid ((w4.alloc (sob q L'.length d room now)).heap.size = w4.heap.size + 1) := by simp [Hid]
  have HX : Hid (∀ w6 O' A', Stp (w4.alloc (sob q L'.length d room now)).drew w6 O O' A A' → (w6.cell? ⟨w4.heap.size, 0, none⟩ = some (.slice q L'.length d) ∧ w6.cell? ⟨w4.heap.size, 1, none⟩ = some (.int .i64 room) ∧ w6.cell? ⟨w4.heap.size, 2, none⟩ = some (.int .i64 now)) ∧ (w6.cell? ⟨w.heap.size + 1 + 1, 0, none⟩ = some (.slice none 0 0) ∧ w6.cell? ⟨w.heap.size + 1 + 1, 1, none⟩ = some (.int .i64 0) ∧ w6.cell? ⟨w.heap.size + 1 + 1, 2, none⟩ = some (.int .i64 0)) ∧ (w6.frozen? ⟨w.heap.size + 1 + 1, 0, none⟩ = false ∧ w6.frozen? ⟨w.heap.size + 1 + 1, 1, none⟩ = false ∧ w6.frozen? ⟨w.heap.size + 1 + 1, 2, none⟩ = false) ∧ Hid (w6.heap[w.heap.size + 1 + 1]? = some (.cells #[.slice none 0 0, .int .i64 0, .int .i64 0] 26 (0, 0)))) := fun w6 O' A' hst => by
    have hz4 := HB4.out.sz
    have hno : ∀ j, w.heap.size ≤ j → ¬ O j := fun j hj ho => by have := HLt.out j (HSub.out j ho); omega
    have b1 := (hst.keep.block w4.heap.size (show w4.heap.size < (w4.alloc _).heap.size by rw [HZ5.out]; omega) (hno _ (by omega))).trans HT5.out
    have b2 := (hst.keep.block (w.heap.size + 1 + 1) (show w.heap.size + 1 + 1 < (w4.alloc _).heap.size by rw [HZ5.out]; omega) (hno _ (by omega))).trans HB5.out.t
    exact ⟨sp_facts b1, sp_facts b2, sp_frozen b2, b2⟩
  clear hh hB4 hba hB5 hS5 a0 a1 a2 o0 o1 o2 o3 o4 o5 o6 o7 o8 o9 t0 t1 t2
  go_wp2_with fail
  go_region_law (first
    | (go_simp; go_at_call 22; refine HP5.out.mono ?_; rintro e w6 ⟨rfl, hh⟩; obtain ⟨O', A', hS6, hT6⟩ := hh.out; obtain ⟨⟨v0, v1, v2⟩, ⟨x0, x1, x2⟩, ⟨f0, f1, f2⟩, HR6⟩ := HX.out w6 O' A' hT6; have HS6 := hid hS6; have HT6 := hid hT6; clear hh hS6 hT6))
  all_goals go_wp2_with fail
  all_goals refine bodyPost_ret (v := .tuple #[sv q L'.length d room now, .bool true]) ?_ rfl ?_
  all_goals first
    | exact ret_stel rfl rfl rfl (set3_rs _ _ _ HR6.out)
    | exact ⟨q, d, rfl, does_fin HB4.out HLt.out HSub.out HBs.out HR4.out HP.out HW5.out HS6.out HT6.out (set3_onlyB _ _ _ _ _) HM.out⟩
set_option maxHeartbeats 4000000 in
set_option maxRecDepth 100000 in
theorem does_del {B : Nat} {w : World} {b : Nat} {O A P : Nat → Prop} {L : List EP} {room now : Int} {p : Option Addr} {c : Nat} (h : Both B w b O A P L room now p c L.length) (hP : ∀ j, w.heap.size ≤ j → P j) (o : OpK) (hk : o.kind = 1) (hx : o.e.key.length ≤ 140737488351232) : DoIs B w b O A P L room now p c o := by
  have e1 : doL L room now o = delL o.e.key L := by simp [doL, hk]
  have e2 : doN now o = now := by simp [doN, hk]
  unfold DoIs
  rw [e1, e2]
  obtain ⟨hsp, ⟨R, hR, hm⟩, -⟩ := h
  have hlen := DoIs_len hm
  have hb3 := bx3_at w p L.length c room now o
  have hR3 : Rde (fun j => (¬ O j ∧ P j) ∧ j < w.heap.size) (bx3 w p L.length c room now o) p c R := hR.keepB (Keep.of_below hb3.bel) (fun i hi hp => ⟨hp, hi⟩)
  have HQ := qdel_any _ p c R room now o.e.key _ hR3 (by have := hsp.fine.len; omega)
  have hmR : (delR o.e.key R).map pr8 = delL o.e.key L := by rw [del_map, hm]
  have hlR := DoIs_len hmR
  have hdec : decide ((delR o.e.key R).length < R.length) = (getL o.e.key L).isSome := by
    rw [hlR, hlen]
    cases hg : getL o.e.key L with
    | none => rw [delL_none hg]; simp
    | some z => have := delL_len_some hsp.srt hg; simp; omega
  rw [hlen, hlR] at HQ
  rw [hlR, hlen] at hdec
  rw [hdec] at HQ
  have HQ := hid HQ
  have HB3 := hid hb3
  have HSp := hid hsp
  have HPut := hid (fun W (hS : Sp B W b O A L room now) => sp_del hS o.e.key hx)
  have HM := hid hmR
  have HP := hid hP
  have HLt := hid (fun k hk => (hsp.lt k hk).2)
  have HSub := hid hsp.sub
  have HBs := hid hsp.base
  obtain ⟨a0, a1, a2⟩ := sp_facts hb3.r
  obtain ⟨o0, o1, o2, o3, o4, o5, o6, o7, o8, o9⟩ := op_facts hb3.o
  obtain ⟨t0, t1, t2⟩ := sp_facts hb3.t
  generalize (getL o.e.key L).isSome = E at *
  generalize delL o.e.key L = L' at *
  obtain ⟨kind, n, x⟩ := o
  dsimp only at *
  subst hk
  clear hsp hR hb3 hR3 hP hmR e1 e2 hx hdec
  go_enter Tryz.func20, Tryz.ntmps20
  go_wp2_with fail
  refine HQ.out.mono ?_; rintro e w4 ⟨q, d, rfl, hh⟩
  have hB4 := HB3.out.go hh.out.2
  have hba := below_alloc w4 (sob q L'.length d room now)
  have hB5 := hB4.go hba
  have HB4 := hid hB4
  have HB5 := hid hB5
  have HR4 : Hid (Rde (fun j => ((¬ O j ∧ P j) ∧ j < w.heap.size) ∨ w.heap.size + 3 ≤ j) w4 q d (delR x.key R)) := hh.out.1.keep (Keep.refl _ _) (fun i hi => hi.imp id (fun h => by have : (bx3 w p L.length c room now ⟨1, n, x⟩).heap.size = w.heap.size + 3 := (by simp); omega))
  have HT5 := hid (heap_alloc_new w4 (sob q L'.length d room now))
  have HW5 := hid hba.drew
  have hS5 := HSp.out.below hB5.bel.drew
  have HP5 := hid (HPut.out (w4.alloc (sob q L'.length d room now)).drew hS5)
  obtain ⟨r0, r1, r2⟩ := sp_facts HT5.out
  obtain ⟨u0, u1, u2, u3, u4, u5, u6, u7, u8, u9⟩ := op_facts hB5.o
  have HZ5 : Hid ((w4.alloc (sob q L'.length d room now)).heap.size = w4.heap.size + 1) := by simp [Hid]
  have HX : Hid (∀ w6 O' A', Stp (w4.alloc (sob q L'.length d room now)).drew w6 O O' A A' → (w6.cell? ⟨w4.heap.size, 0, none⟩ = some (.slice q L'.length d) ∧ w6.cell? ⟨w4.heap.size, 1, none⟩ = some (.int .i64 room) ∧ w6.cell? ⟨w4.heap.size, 2, none⟩ = some (.int .i64 now)) ∧ (w6.cell? ⟨w.heap.size + 1 + 1, 0, none⟩ = some (.slice none 0 0) ∧ w6.cell? ⟨w.heap.size + 1 + 1, 1, none⟩ = some (.int .i64 0) ∧ w6.cell? ⟨w.heap.size + 1 + 1, 2, none⟩ = some (.int .i64 0)) ∧ (w6.frozen? ⟨w.heap.size + 1 + 1, 0, none⟩ = false ∧ w6.frozen? ⟨w.heap.size + 1 + 1, 1, none⟩ = false ∧ w6.frozen? ⟨w.heap.size + 1 + 1, 2, none⟩ = false) ∧ Hid (w6.heap[w.heap.size + 1 + 1]? = some (.cells #[.slice none 0 0, .int .i64 0, .int .i64 0] 26 (0, 0)))) := fun w6 O' A' hst => by
    have hz4 := HB4.out.sz
    have hno : ∀ j, w.heap.size ≤ j → ¬ O j := fun j hj ho => by have := HLt.out j (HSub.out j ho); omega
    have b1 := (hst.keep.block w4.heap.size (show w4.heap.size < (w4.alloc _).heap.size by rw [HZ5.out]; omega) (hno _ (by omega))).trans HT5.out
    have b2 := (hst.keep.block (w.heap.size + 1 + 1) (show w.heap.size + 1 + 1 < (w4.alloc _).heap.size by rw [HZ5.out]; omega) (hno _ (by omega))).trans HB5.out.t
    exact ⟨sp_facts b1, sp_facts b2, sp_frozen b2, b2⟩
  clear hh hB4 hba hB5 hS5 a0 a1 a2 o0 o1 o2 o3 o4 o5 o6 o7 o8 o9 t0 t1 t2
  go_wp2_with fail
  go_region_law (first
    | (go_simp; go_at_call 23; refine HP5.out.mono ?_; rintro e w6 ⟨rfl, hh⟩; obtain ⟨O', A', hS6, hT6⟩ := hh.out; obtain ⟨⟨v0, v1, v2⟩, ⟨x0, x1, x2⟩, ⟨f0, f1, f2⟩, HR6⟩ := HX.out w6 O' A' hT6; have HS6 := hid hS6; have HT6 := hid hT6; clear hh hS6 hT6))
  all_goals go_wp2_with fail
  all_goals refine bodyPost_ret (v := .tuple #[sv q L'.length d room now, .bool true]) ?_ rfl ?_
  all_goals first
    | exact ret_stel rfl rfl rfl (set3_rs _ _ _ HR6.out)
    | exact ⟨q, d, rfl, does_fin HB4.out HLt.out HSub.out HBs.out HR4.out HP.out HW5.out HS6.out HT6.out (set3_onlyB _ _ _ _ _) HM.out⟩
set_option maxHeartbeats 4000000 in
set_option maxRecDepth 100000 in
theorem does_tick {B : Nat} {w : World} {b : Nat} {O A P : Nat → Prop} {L : List EP} {room now : Int} {p : Option Addr} {c : Nat} (h : Both B w b O A P L room now p c L.length) (hP : ∀ j, w.heap.size ≤ j → P j) (o : OpK) (hk : o.kind = 2) : DoIs B w b O A P L room now p c o := by
  have e1 : doL L room now o = tickL (tickN now o.n) L := by simp [doL, hk]
  have e2 : doN now o = tickN now o.n := by simp [doN, hk]
  unfold DoIs
  rw [e1, e2]
  obtain ⟨hsp, ⟨R, hR, hm⟩, -⟩ := h
  have hlen := DoIs_len hm
  have hb3 := bx3_at w p L.length c room now o
  have hR3 : Rde (fun j => (¬ O j ∧ P j) ∧ j < w.heap.size) (bx3 w p L.length c room now o) p c R := hR.keepB (Keep.of_below hb3.bel) (fun i hi hp => ⟨hp, hi⟩)
  have HQ := qtick_at _ p c R room now o.n (tickN now o.n) _ hR3 (by have := hsp.fine.len; omega) (by unfold tickN; omega)
  have hmR : (tickR (tickN now o.n) R).map pr8 = tickL (tickN now o.n) L := by rw [tick_map, hm]
  have hlR := DoIs_len hmR
  rw [hlen, hlR] at HQ
  have HQ := hid HQ
  have HB3 := hid hb3
  have HSp := hid hsp
  have HPut := hid (fun W (hS : Sp B W b O A L room now) => sp_tick hS o.n)
  have HM := hid hmR
  have HP := hid hP
  have HLt := hid (fun k hk => (hsp.lt k hk).2)
  have HSub := hid hsp.sub
  have HBs := hid hsp.base
  obtain ⟨a0, a1, a2⟩ := sp_facts hb3.r
  obtain ⟨o0, o1, o2, o3, o4, o5, o6, o7, o8, o9⟩ := op_facts hb3.o
  obtain ⟨t0, t1, t2⟩ := sp_facts hb3.t
  generalize tickL (tickN now o.n) L = L' at *
  generalize (L.length : Int) - (L'.length : Int) = E at *
  obtain ⟨kind, n, x⟩ := o
  dsimp only at *
  subst hk
  generalize hT : tickN now n = T at *
  clear hsp hR hb3 hR3 hP hmR e1 e2 hT
  go_enter Tryz.func20, Tryz.ntmps20
  go_wp2_with fail
  refine HQ.out.mono ?_; rintro e w4 ⟨q, d, rfl, hh⟩
  have hB4 := HB3.out.go hh.out.2
  have hba := below_alloc w4 (sob q L'.length d room T)
  have hB5 := hB4.go hba
  have HB4 := hid hB4
  have HB5 := hid hB5
  have HR4 : Hid (Rde (fun j => ((¬ O j ∧ P j) ∧ j < w.heap.size) ∨ w.heap.size + 3 ≤ j) w4 q d (tickR T R)) := hh.out.1.keep (Keep.refl _ _) (fun i hi => hi.imp id (fun h => by have : (bx3 w p L.length c room now ⟨2, n, x⟩).heap.size = w.heap.size + 3 := (by simp); omega))
  have HT5 := hid (heap_alloc_new w4 (sob q L'.length d room T))
  have HW5 := hid hba.drew
  have hS5 := HSp.out.below hB5.bel.drew
  have HP5 := hid (HPut.out (w4.alloc (sob q L'.length d room T)).drew hS5)
  obtain ⟨r0, r1, r2⟩ := sp_facts HT5.out
  obtain ⟨u0, u1, u2, u3, u4, u5, u6, u7, u8, u9⟩ := op_facts hB5.o
  have HZ5 : Hid ((w4.alloc (sob q L'.length d room T)).heap.size = w4.heap.size + 1) := by simp [Hid]
  have HX : Hid (∀ w6 O' A', Stp (w4.alloc (sob q L'.length d room T)).drew w6 O O' A A' → (w6.cell? ⟨w4.heap.size, 0, none⟩ = some (.slice q L'.length d) ∧ w6.cell? ⟨w4.heap.size, 1, none⟩ = some (.int .i64 room) ∧ w6.cell? ⟨w4.heap.size, 2, none⟩ = some (.int .i64 T)) ∧ (w6.cell? ⟨w.heap.size + 1 + 1, 0, none⟩ = some (.slice none 0 0) ∧ w6.cell? ⟨w.heap.size + 1 + 1, 1, none⟩ = some (.int .i64 0) ∧ w6.cell? ⟨w.heap.size + 1 + 1, 2, none⟩ = some (.int .i64 0)) ∧ (w6.frozen? ⟨w.heap.size + 1 + 1, 0, none⟩ = false ∧ w6.frozen? ⟨w.heap.size + 1 + 1, 1, none⟩ = false ∧ w6.frozen? ⟨w.heap.size + 1 + 1, 2, none⟩ = false) ∧ Hid (w6.heap[w.heap.size + 1 + 1]? = some (.cells #[.slice none 0 0, .int .i64 0, .int .i64 0] 26 (0, 0)))) := fun w6 O' A' hst => by
    have hz4 := HB4.out.sz
    have hno : ∀ j, w.heap.size ≤ j → ¬ O j := fun j hj ho => by have := HLt.out j (HSub.out j ho); omega
    have b1 := (hst.keep.block w4.heap.size (show w4.heap.size < (w4.alloc _).heap.size by rw [HZ5.out]; omega) (hno _ (by omega))).trans HT5.out
    have b2 := (hst.keep.block (w.heap.size + 1 + 1) (show w.heap.size + 1 + 1 < (w4.alloc _).heap.size by rw [HZ5.out]; omega) (hno _ (by omega))).trans HB5.out.t
    exact ⟨sp_facts b1, sp_facts b2, sp_frozen b2, b2⟩
  clear hh hB4 hba hB5 hS5 a0 a1 a2 o0 o1 o2 o3 o4 o5 o6 o7 o8 o9 t0 t1 t2
  go_wp2_with fail
  go_region_law (first
    | (go_simp; go_at_call 15; refine HP5.out.mono ?_; rintro e w6 ⟨rfl, hh⟩; obtain ⟨O', A', hS6, hT6⟩ := hh.out; obtain ⟨⟨v0, v1, v2⟩, ⟨x0, x1, x2⟩, ⟨f0, f1, f2⟩, HR6⟩ := HX.out w6 O' A' hT6; have HS6 := hid hS6; have HT6 := hid hT6; clear hh hS6 hT6))
  all_goals go_wp2_with fail
  all_goals refine bodyPost_ret (v := .tuple #[sv q L'.length d room T, .bool true]) ?_ rfl ?_
  all_goals first
    | exact ret_stel rfl rfl rfl (set3_rs _ _ _ HR6.out)
    | exact ⟨q, d, rfl, does_fin HB4.out HLt.out HSub.out HBs.out HR4.out HP.out HW5.out HS6.out HT6.out (set3_onlyB _ _ _ _ _) HM.out⟩
set_option maxHeartbeats 4000000 in
set_option maxRecDepth 100000 in
theorem does_other {B : Nat} {w : World} {b : Nat} {O A P : Nat → Prop} {L : List EP} {room now : Int} {p : Option Addr} {c : Nat} (h : Both B w b O A P L room now p c L.length) (o : OpK) (h0 : o.kind ≠ 0) (h1 : o.kind ≠ 1) (h2 : o.kind ≠ 2) : DoIs B w b O A P L room now p c o := by
  have e1 : doL L room now o = L := by simp [doL, h0, h1, h2]
  have e2 : doN now o = now := by simp [doN, h2]
  unfold DoIs
  rw [e1, e2]
  obtain ⟨hsp, ⟨R, hR, hm⟩, -⟩ := h
  have hb3 := bx3_at w p L.length c room now o
  have HSp := hid hsp
  have HR := hid hR
  have HM := hid hm
  have k0 : (o.kind == 0) = false := beq_eq_false_iff_ne.2 h0
  have k1 : (o.kind == 1) = false := beq_eq_false_iff_ne.2 h1
  have k2 : (o.kind == 2) = false := beq_eq_false_iff_ne.2 h2
  obtain ⟨a0, a1, a2⟩ := sp_facts hb3.r
  obtain ⟨o0, o1, o2, o3, o4, o5, o6, o7, o8, o9⟩ := op_facts hb3.o
  obtain ⟨t0, t1, t2⟩ := sp_facts hb3.t
  obtain ⟨f0, f1, f2⟩ := sp_frozen hb3.t
  obtain ⟨kind, n, x⟩ := o
  dsimp only at *
  clear hsp hR hb3 h0 h1 h2 e1 e2 hm
  go_enter Tryz.func20, Tryz.ntmps20
  go_wp2_with fail
  have hnew := heap_alloc_new ((w.alloc (sob p L.length c room now)).alloc (.cells (OpK.mk kind n x).cells 52)) (sob p L.length c room now)
  rw [show ((w.alloc (sob p L.length c room now)).alloc (.cells (OpK.mk kind n x).cells 52)).heap.size = w.heap.size + 1 + 1 by simp] at hnew
  have hbl : Below w.heap.size w (((w.alloc (sob p L.length c room now)).alloc (.cells (OpK.mk kind n x).cells 52)).alloc (sob p L.length c room now)) := ((below_alloc w _).alloc (by simp) _).alloc (by simp; omega) _
  refine bodyPost_ret (v := .tuple #[sv p L.length c room now, .bool true]) ?_ rfl ?_
  · exact ret_stel rfl rfl rfl hnew
  · exact ⟨p, c, rfl, O, A, ⟨HSp.out.below hbl, ⟨R, HR.out.below hbl, HM.out⟩, rfl⟩, Stp.below hbl O A⟩
/-- does -/
theorem does_any {B : Nat} {w : World} {b : Nat} {O A P : Nat → Prop} {L : List EP} {room now : Int} {p : Option Addr} {c : Nat} (h : Both B w b O A P L room now p c L.length) (hP : ∀ j, w.heap.size ≤ j → P j) (o : OpK) (hx : Arg8 o.e) (hs : Ok8 o.e) (hV : Lies (fun j => ¬ O j ∧ P j) w o.e) : DoIs B w b O A P L room now p c o := by
  by_cases h0 : o.kind = 0
  · exact does_put h hP o h0 hx hs hV
  by_cases h1 : o.kind = 1
  · exact does_del h hP o h1 hx.key
  by_cases h2 : o.kind = 2
  · exact does_tick h hP o h2
  exact does_other h o h0 h1 h2

end Go.Proofs.YtoecokidooaaoaaGreatDoor

namespace Go.Proofs.YtoecokidooaaoaaGreatDoor
open Go.RowKit

/-- where calls lie -/
def Ops (w : World) (p : Option Addr) (l : List OpK) : Prop := l ≠ [] → ∃ g o, p = some ⟨g, o, none⟩ ∧ g < w.heap.size ∧ ∀ i (h : i < l.length) (j : Nat), j < 10 → w.cell? ⟨g, o + (i * 10 + j), none⟩ = l[i].cells[j]?
theorem Ops.below {w w' : World} {p : Option Addr} {l : List OpK} (h : Ops w p l) (k : Below w.heap.size w w') : Ops w' p l := fun hne => by
  obtain ⟨g, o, e, hg, hc⟩ := h hne
  refine ⟨g, o, e, Nat.lt_of_lt_of_le hg k.size, fun i hi j hj => ?_⟩
  rw [World.cell?_of_block (w := w) (k.block g hg)]
  exact hc i hi j hj
theorem Ops.facts {w : World} {p : Option Addr} {l : List OpK} (h : Ops w p l) (i : Nat) (hi : i < l.length) : ∃ g o, p = some ⟨g, o, none⟩ ∧ g < w.heap.size ∧
    w.cell? ⟨g, o + i * 10, none⟩ = some (.int .i64 l[i].kind) ∧ w.cell? ⟨g, o + i * 10 + 1, none⟩ = some (.int .i64 l[i].n) ∧ w.cell? ⟨g, o + i * 10 + 2, none⟩ = some (txt l[i].e.key) ∧ w.cell? ⟨g, o + i * 10 + 3, none⟩ = some (.int .i64 l[i].e.m.kind) ∧ w.cell? ⟨g, o + i * 10 + 4, none⟩ = some (txt l[i].e.m.text) ∧ w.cell? ⟨g, o + i * 10 + 5, none⟩ = some (.slice l[i].e.pp l[i].e.m.pairs.length l[i].e.pc) ∧ w.cell? ⟨g, o + i * 10 + 6, none⟩ = some (.slice l[i].e.ip l[i].e.m.items.length l[i].e.ic) ∧ w.cell? ⟨g, o + i * 10 + 7, none⟩ = some (.int .i64 l[i].e.m.px) ∧ w.cell? ⟨g, o + i * 10 + 8, none⟩ = some (.int .i64 l[i].e.m.py) ∧ w.cell? ⟨g, o + i * 10 + 9, none⟩ = some (.int .i64 l[i].e.ends) := by
  obtain ⟨g, o, e, hg, hc⟩ := h (fun e => by rw [e] at hi; simp at hi)
  have f := fun j hj => hc i hi j hj
  simp only [← Nat.add_assoc] at f
  exact ⟨g, o, e, hg, f 0 (by decide), f 1 (by decide), f 2 (by decide), f 3 (by decide), f 4 (by decide), f 5 (by decide), f 6 (by decide), f 7 (by decide), f 8 (by decide), f 9 (by decide)⟩
def small1 (o : OpK) : Bool := decide (o.e.m.pairs.length ≤ 300 ∧ o.e.m.items.length ≤ 300)
def fewB (l : List OpK) : Bool := decide (l.length ≤ 200) && l.all small1
theorem fewB_take {l : List OpK} {i : Nat} (h : i < l.length) : (l.take (i + 1)).all small1 = ((l.take i).all small1 && small1 l[i]) := by
  rw [List.take_succ_eq_append_getElem h, List.all_append]
  simp
set_option maxHeartbeats 4000000 in
set_option maxRecDepth 100000 in
theorem few_any (p : Option Addr) (l : List OpK) (c : Nat) (w : World) (h : Ops w p l) (hl : ∀ o ∈ l, o.e.m.pairs.length ≤ 140737488351232 ∧ o.e.m.items.length ≤ 140737488351232) (hn : l.length ≤ 140737488351232) :
    Calls Tryz.prog 18 #[.slice p l.length c] w fun e w' => e = .returned (.bool (fewB l)) ∧ Hid (Below w.heap.size w w') := by
  obtain ⟨V, hV⟩ : ∃ V, V = fewB l := ⟨_, rfl⟩
  rw [← hV]
  have HV : Hid (V = (decide (l.length ≤ 200) && l.all small1)) := hV
  have H := hid h
  have HL := hid hl
  clear h hl hV
  by_cases h2 : l.length ≤ 200
  · have h2z : ¬ (200 : Int) < (l.length : Int) := by omega
    go_enter Tryz.func18, Tryz.ntmps18
    go_wp2_with fail
    go_loopw [10] (fun v10 W => ∃ i : Nat, v10 = .int .i64 i ∧ i ≤ l.length ∧ Hid ((l.take i).all small1 = true) ∧ Hid (Below w.heap.size w W)) (fun v10 _ => l.length - (intOf v10).toNat)
    case atStart => exact ⟨0, rfl, Nat.zero_le _, rfl, Below.refl _ _⟩
    case round =>
      obtain ⟨i, rfl, hi, HA, HW⟩ := hrel
      by_cases hlt : i < l.length
      · have hiz : (i : Int) < (l.length : Int) := by omega
        obtain ⟨g, o, rfl, hg, x0, x1, x2, x3, x4, x5, x6, x7, x8, x9⟩ := (H.out.below HW.out).facts i hlt
        have HT := hid (fewB_take hlt)
        have hb := HL.out l[i] (List.getElem_mem _)
        have HMe := hid (List.getElem_mem hlt)
        generalize l[i] = y at *
        have hbp : (y.e.m.pairs.length : Int) ≤ 140737488351232 := by omega
        have hbi : (y.e.m.items.length : Int) ≤ 140737488351232 := by omega
        have HB1 := hid (HW.out.trans ((below_alloc wr (.cells y.cells 52)).mono HW.out.size))
        have hnx : ∀ W, Below w.heap.size w W → small1 y = true → Hid ((l.take (i + 1)).all small1 = true) := fun W _ hs => by unfold Hid; rw [HT.out, HA.out, hs]; rfl
        have HNo : Hid (small1 y = false → V = false) := fun hs => by
          rw [HV.out]
          have : l.all small1 = false := List.all_eq_false.2 ⟨y, HMe.out, by rw [hs]; simp⟩
          rw [this, Bool.and_false]
        have HNx := hid hnx
        clear hnx hb
        by_cases hp : y.e.m.pairs.length ≤ 300
        · have hpz : ¬ (300 : Int) < (y.e.m.pairs.length : Int) := by omega
          by_cases hq : y.e.m.items.length ≤ 300
          · have hqz : ¬ (300 : Int) < (y.e.m.items.length : Int) := by omega
            have HF := HNx.out _ HB1.out (decide_eq_true ⟨hp, hq⟩)
            clear hp hq
            go_wp2_with fail
            exact ⟨⟨i + 1, by go_num, by omega, HF, HB1.out⟩, by simp [intOf]; omega⟩
          · have hqz : (300 : Int) < (y.e.m.items.length : Int) := by omega
            have HF := hid (HNo.out (decide_eq_false (fun h => hq h.2)))
            clear hp hq
            go_wp2_with fail
            go_ret
            exact ⟨by rw [HF.out]; rfl, HB1.out⟩
        · have hpz : (300 : Int) < (y.e.m.pairs.length : Int) := by omega
          have HF := hid (HNo.out (decide_eq_false (fun h => hp h.1)))
          clear hp
          go_wp2_with fail
          go_ret
          exact ⟨by rw [HF.out]; rfl, HB1.out⟩
      · obtain rfl : i = l.length := by omega
        have HF : Hid (V = true) := by
          unfold Hid
          rw [HV.out]
          have := HA.out
          rw [List.take_length] at this
          rw [this, decide_eq_true h2]
          rfl
        go_wp2_with fail
        go_ret
        exact ⟨by rw [HF.out]; rfl, HW.out⟩
  · have h2z : (200 : Int) < (l.length : Int) := by omega
    have HF : Hid (V = false) := by unfold Hid; rw [HV.out, decide_eq_false h2]; rfl
    go_enter Tryz.func18, Tryz.ntmps18
    go_wp2_with fail
    go_ret
    exact ⟨by rw [HF.out]; rfl, Below.refl _ _⟩

end Go.Proofs.YtoecokidooaaoaaGreatDoor
