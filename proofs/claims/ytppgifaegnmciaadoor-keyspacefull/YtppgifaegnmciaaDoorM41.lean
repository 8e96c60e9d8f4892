/- KMeth, KDo0, KDo1, KFew. -/
import Derived.Test.YtppgifaegnmciaaDoorM40
import Derived.Test.YtppgifaegnmciaaDoorM34
import Derived.Test.YtppgifaegnmciaaDoorM35
import Derived.Test.YtppgifaegnmciaaDoorM36
import Derived.Test.YtppgifaegnmciaaDoorM37
import Derived.Test.YtppgifaegnmciaaDoorM38
import Derived.Test.YtppgifaegnmciaaDoorM39
namespace Go.Proofs.YtppgifaegnmciaaDoor
open Go.RowKit

theorem Sp.turn {B : Nat} {w w' : World} {b : Nat} {O A : Nat → Prop} {L : List EP} {room now : Int} (h : Sp B w b O A L room now) (k : Keep (fun k => k < B ∨ A k) w w') : Sp B w' b O A L room now := by
  obtain ⟨d, mb, Od, D, f, mem, soon, h1, h2, h3⟩ := h
  exact ⟨d, mb, Od, D, f, mem, soon, h1.turn k, h2, h3⟩
theorem Sp.below {B : Nat} {w w' : World} {b : Nat} {O A : Nat → Prop} {L : List EP} {room now : Int} (h : Sp B w b O A L room now) (k : Below w.heap.size w w') : Sp B w' b O A L room now := h.turn (Keep.of_below k)
theorem Sp.lt {B : Nat} {w : World} {b : Nat} {O A : Nat → Prop} {L : List EP} {room now : Int} (h : Sp B w b O A L room now) : ∀ k, A k → B ≤ k ∧ k < w.heap.size := by
  obtain ⟨d, mb, Od, D, f, mem, soon, h1, h2, h3⟩ := h
  exact h1.lt
theorem Sp.sub {B : Nat} {w : World} {b : Nat} {O A : Nat → Prop} {L : List EP} {room now : Int} (h : Sp B w b O A L room now) : ∀ k, O k → A k := by
  obtain ⟨d, mb, Od, D, f, mem, soon, h1, h2, h3⟩ := h
  exact h1.sub
theorem Sp.base {B : Nat} {w : World} {b : Nat} {O A : Nat → Prop} {L : List EP} {room now : Int} (h : Sp B w b O A L room now) : B ≤ w.heap.size := by
  obtain ⟨d, mb, Od, D, f, mem, soon, h1, h2, h3⟩ := h
  have := h1.blt
  omega
theorem Sp.srt {B : Nat} {w : World} {b : Nat} {O A : Nat → Prop} {L : List EP} {room now : Int} (h : Sp B w b O A L room now) : SrtL L := by
  obtain ⟨d, mb, Od, D, f, mem, soon, h1, h2, h3⟩ := h
  exact h2.srtL
/-- what the entries of a space are -/
structure Fine (L : List EP) (now : Int) : Prop where
  good : ∀ x ∈ L, x.1.length ≤ 1024 ∧ RtV x.2.1 ∧ 0 ≤ x.2.2 ∧ x.2.2 ≤ 1099511627776
  len : L.length ≤ 4096
  live : ∀ x ∈ L, x.2.2 = 0 ∨ now < x.2.2
  now : 0 ≤ now ∧ now ≤ 1099511627776
theorem Sp.fine {B : Nat} {w : World} {b : Nat} {O A : Nat → Prop} {L : List EP} {room now : Int} (h : Sp B w b O A L room now) : Fine L now := by
  obtain ⟨d, mb, Od, D, f, mem, soon, h1, h2, h3⟩ := h
  exact ⟨h2.good, h2.len, fun x hx => (h3.live x hx).imp id (·.1), h3.now⟩
theorem Live.put {L : List EP} {now soon : Int} (h : Live now soon L) (room : Int) (x : E8) (soon' : Int) (h1 : soon' = soon ∨ soon' = (if 0 < x.ends then min soon x.ends else soon)) (h2 : putEL L room now (pr8 x) = 0 → soon' = (if 0 < x.ends then min soon x.ends else soon)) : Live now soon' (putLL L room now (pr8 x)) := by
  have hs := h.soon
  have hle : soon' ≤ soon := by
    rcases h1 with h1 | h1
    · omega
    · rw [h1]; split <;> omega
  have h0 : 0 ≤ soon' := by
    rcases h1 with h1 | h1
    · omega
    · rw [h1]; split <;> omega
  refine ⟨fun y hy => ?_, h.now, by omega⟩
  unfold putLL at hy
  split at hy
  · rename_i he
    rw [insL_eq] at hy
    rcases insR_mem.1 hy with rfl | hy
    · have hna : ¬ argBadP (pr8 x) now := fun hb => by rw [putEL_arg hb] at he; cases he
      unfold argBadP at hna
      dsimp only at hna ⊢
      by_cases hz : x.ends = 0
      · exact .inl hz
      · refine .inr ⟨by omega, ?_⟩
        rw [h2 he, if_pos (by omega)]
        omega
    · exact (h.live y (delL_mem.1 hy).1).imp id (fun k => ⟨k.1, by omega⟩)
  · exact (h.live y hy).imp id (fun k => ⟨k.1, by omega⟩)
/-- Put -/
theorem sp_put {B : Nat} {w : World} {b : Nat} {O A : Nat → Prop} {L : List EP} {room now : Int} (h : Sp B w b O A L room now) (x : E8) (hx : Arg8 x) (hV : Lies (Off O) w x) :
    Calls Tryd.prog 7 #[ptr b, ev x] w fun e w' => e = .returned (.int .i64 (putEL L room now (pr8 x))) ∧ Hid (∃ O' A', Sp B w' b O' A' (putLL L room now (pr8 x)) room now ∧ Stp w w' O O' A A') := by
  obtain ⟨d, mb, Od, D, f, mem, soon, h1, h2, h3⟩ := h
  have hno : ∀ e, putEL L room now (pr8 x) = e → e ≠ 0 → Refused w b x e → Calls Tryd.prog 7 #[ptr b, ev x] w fun e w' => e = .returned (.int .i64 (putEL L room now (pr8 x))) ∧ Hid (∃ O' A', Sp B w' b O' A' (putLL L room now (pr8 x)) room now ∧ Stp w w' O O' A A') := fun e he hne hr => by
    refine hr.mono fun r w' ⟨hr, hb⟩ => ⟨by rw [hr, he], O, A, ⟨d, mb, Od, D, f, mem, soon, h1.below hb.out, ?_, ?_⟩, Stp.below hb.out O A⟩
    · unfold putLL
      rw [he, if_neg hne]
      exact h2
    · unfold putLL
      rw [he, if_neg hne]
      exact h3
  have hyes : PutSp B w b d mb O A L room now soon x → Calls Tryd.prog 7 #[ptr b, ev x] w fun e w' => e = .returned (.int .i64 (putEL L room now (pr8 x))) ∧ Hid (∃ O' A', Sp B w' b O' A' (putLL L room now (pr8 x)) room now ∧ Stp w w' O O' A A') := fun hp => by
    refine hp.mono fun r w' ⟨hr, hh⟩ => ⟨hr, ?_⟩
    obtain ⟨O', A', Od', D', f', mem', soon', k1, k2, k3, k4, k5⟩ := hh.out
    exact ⟨O', A', ⟨d, mb, Od', D', f', mem', soon', k1, k2, h3.put room x soon' k3 k4⟩, k5⟩
  by_cases c1 : 1024 < x.key.length
  · exact hno 1 (putEL_arg (.inl c1)) (by decide) (kput_key h1 x hx c1)
  by_cases c2 : x.ends < 0
  · exact hno 1 (putEL_arg (.inr (.inl c2))) (by decide) (kput_low h1 x c1 c2)
  by_cases c3 : 1099511627776 < x.ends
  · exact hno 1 (putEL_arg (.inr (.inr (.inl c3)))) (by decide) (kput_far h1 x c1 c2 c3)
  by_cases c4 : 0 < x.ends ∧ x.ends ≤ now
  · exact hno 1 (putEL_arg (.inr (.inr (.inr c4)))) (by decide) (kput_over h1 x c1 c2 c3 c4)
  have hab : ¬ argBadP (pr8 x) now := by unfold argBadP; dsimp only; omega
  cases c5 : rightB x.m with
  | false => exact hno 100 (putEL_form hab c5) (by decide) (kput_form h1 x hx c1 c2 c3 c4 hV.vi c5)
  | true =>
    cases c6 : (Dc.getL x.key D.L).isSome with
    | true =>
      by_cases c7 : room < mem + (tk x : Int) - (tk ((Dc.getL x.key D.L).getD Dc.DE.e80) : Int)
      · by_cases c8 : mem < mem + (tk x : Int) - (tk ((Dc.getL x.key D.L).getD Dc.DE.e80) : Int)
        · exact hyes (kput_p1 h1 h2 x hx hV c1 c2 c3 c4 c5 c6 ⟨c7, c8⟩)
        · exact hyes (kput_p2 h1 h2 x hx hV c1 c2 c3 c4 c5 c6 ⟨c7, c8⟩)
      · exact hyes (kput_p3 h1 h2 x hx hV c1 c2 c3 c4 c5 c6 c7)
    | false =>
      by_cases c7 : 4096 ≤ L.length
      · exact hyes (kput_p4 h1 h2 x hx hV c1 c2 c3 c4 c5 c6 c7)
      · by_cases c8 : room < mem + (tk x : Int)
        · exact hyes (kput_p5 h1 h2 x hx hV c1 c2 c3 c4 c5 c6 c7 c8)
        · exact hyes (kput_p6 h1 h2 x hx hV c1 c2 c3 c4 c5 c6 c7 c8)
/-- Get -/
theorem sp_get {B : Nat} {w : World} {b : Nat} {O A : Nat → Prop} {L : List EP} {room now : Int} (h : Sp B w b O A L room now) (k : Nm) (hk : k.length ≤ 140737488351232) :
    Calls Tryd.prog 13 #[ptr b, txt k] w fun e w' => ∃ y : E8, e = .returned (.tuple #[ev y, .bool (getL k L).isSome]) ∧ Hid (pr8 y = (getL k L).getD ([], zeroV, 0) ∧ OwnEn w.heap.size w' y ∧ Below w.heap.size w w') := by
  obtain ⟨d, mb, Od, D, f, mem, soon, h1, h2, h3⟩ := h
  exact kget_any h1 h2 k hk
theorem sp_mem {B : Nat} {w : World} {b : Nat} {O A : Nat → Prop} {L : List EP} {room now : Int} (h : Sp B w b O A L room now) : Calls Tryd.prog 11 #[ptr b] w fun e w' => e = .returned (.int .i64 (memL L : Int)) ∧ Hid (Below w.heap.size w w') := by
  obtain ⟨d, mb, Od, D, f, mem, soon, h1, h2, h3⟩ := h
  rw [← h2.mem]
  exact kmem_any h1
theorem sp_len {B : Nat} {w : World} {b : Nat} {O A : Nat → Prop} {L : List EP} {room now : Int} (h : Sp B w b O A L room now) : Calls Tryd.prog 8 #[ptr b] w fun e w' => e = .returned (.int .i64 L.length) ∧ Hid (Below w.heap.size w w') := by
  obtain ⟨d, mb, Od, D, f, mem, soon, h1, h2, h3⟩ := h
  rw [← h2.dlen]
  exact klen_any h1
theorem sp_count {B : Nat} {w : World} {b : Nat} {O A : Nat → Prop} {L : List EP} {room now : Int} (h : Sp B w b O A L room now) (n : Int) (hn : In64 n) : Calls Tryd.prog 14 #[ptr b, .int .i64 n] w fun e w' => e = .returned (.int .i64 (slotL n L).length) ∧ Hid (Below w.heap.size w w') := by
  obtain ⟨d, mb, Od, D, f, mem, soon, h1, h2, h3⟩ := h
  rw [← h2.slots]
  exact kcount_any h1 n hn
theorem sp_all {B : Nat} {w : World} {b : Nat} {O A : Nat → Prop} {L : List EP} {room now : Int} (h : Sp B w b O A L room now) : Calls Tryd.prog 10 #[ptr b] w fun e w' => ∃ q c, e = .returned (.slice q L.length c) ∧ Hid (∃ R : List E8, Rde (fun k => w.heap.size ≤ k) w' q c R ∧ R.map pr8 = L ∧ Below w.heap.size w w') := by
  obtain ⟨d, mb, Od, D, f, mem, soon, h1, h2, h3⟩ := h
  exact kall_any h1 h2
end Go.Proofs.YtppgifaegnmciaaDoor

namespace Go.Proofs.YtppgifaegnmciaaDoor
open Go.RowKit

theorem Lies.keepB {P Q : Nat → Prop} {w w' : World} {x : E8} (h : Lies P w x) (k : Keep P w w') (hq : ∀ i, i < w.heap.size → P i → Q i) : Lies Q w' x := by
  refine ⟨(h.keep (Q := fun _ => True) k (fun _ _ => trivial)).vi, fun hne a ha => ?_, fun hne a ha => ?_⟩
  · obtain ⟨b, o, e, hc⟩ := h.vi.pairs.prs hne
    have hp := h.pairs hne a ha
    rw [ha] at e
    injection e with e
    rw [e] at hp ⊢
    exact hq b (block_lt_of_cell (hc 0 (List.length_pos_iff.2 hne)).1) hp
  · obtain ⟨b, o, e, hc⟩ := h.vi.items.strs hne
    have hp := h.items hne a ha
    rw [ha] at e
    injection e with e
    rw [e] at hp ⊢
    exact hq b (block_lt_of_cell (hc 0 (List.length_pos_iff.2 hne))) hp
theorem Rde.keepB {P Q : Nat → Prop} {w w' : World} {p : Option Addr} {c : Nat} {R : List E8} (h : Rde P w p c R) (k : Keep P w w') (hq : ∀ i, i < w.heap.size → P i → Q i) : Rde Q w' p c R := by
  refine ⟨fun hne => ?_, h.nil, h.cap, fun x hx => (h.lies x hx).keepB k hq⟩
  obtain ⟨b, o, rfl, hp, hl, hc⟩ := h.at8 hne
  refine ⟨b, o, rfl, hq _ hl hp, Nat.lt_of_lt_of_le hl k.size, fun i hi j hj => ?_⟩
  rw [World.cell?_of_block (w := w) (k.block b hl hp)]
  exact hc i hi j hj
theorem set3_onlyB (W : World) (b : Nat) (v0 v1 v2 : Value) : OnlyB b W (((W.setCell ⟨b, 0, none⟩ v0).setCell ⟨b, 1, none⟩ v1).setCell ⟨b, 2, none⟩ v2) := by
  refine ⟨rfl, rfl, rfl, by simp, fun k hk => ?_⟩
  rw [heap_setCell_other _ _ _ _ hk, heap_setCell_other _ _ _ _ hk, heap_setCell_other _ _ _ _ hk]
/-- a call -/
structure OpK where
  kind : Int
  n : Int
  e : E8
abbrev OpK.cells (o : OpK) : Array Value := #[.int .i64 o.kind, .int .i64 o.n, txt o.e.key, .int .i64 o.e.m.kind, txt o.e.m.text, .slice o.e.pp o.e.m.pairs.length o.e.pc, .slice o.e.ip o.e.m.items.length o.e.ic, .int .i64 o.e.m.px, .int .i64 o.e.m.py, .int .i64 o.e.ends]
abbrev opV (o : OpK) : Value := .agg o.cells
/-- what a call does to the list -/
noncomputable def doL (L : List EP) (room now : Int) (o : OpK) : List EP := if o.kind = 0 then putLL L room now (pr8 o.e) else if o.kind = 1 then delL o.e.key L else if o.kind = 2 then tickL (tickN now o.n) L else L
def doN (now : Int) (o : OpK) : Int := if o.kind = 2 then tickN now o.n else now
/-- a space and the document's, side by side -/
structure Both (B : Nat) (w : World) (b : Nat) (O A P : Nat → Prop) (L : List EP) (room now : Int) (p : Option Addr) (c n : Nat) : Prop where
  sp : Sp B w b O A L room now
  doc : ∃ R : List E8, Rde (fun j => ¬ O j ∧ P j) w p c R ∧ R.map pr8 = L
  len : n = L.length
end Go.Proofs.YtppgifaegnmciaaDoor

namespace Go.Proofs.YtppgifaegnmciaaDoor
open Go.RowKit

theorem DoIs_len {L : List EP} {R : List E8} (h : R.map pr8 = L) : R.length = L.length := by rw [← h]; simp
theorem ok_of {L : List EP} {now : Int} {R : List E8} (h : Fine L now) (hm : R.map pr8 = L) : ∀ y ∈ R, Ok8 y := fun y hy => by
  have := h.good (pr8 y) (by rw [← hm]; exact List.mem_map_of_mem hy)
  exact ⟨by have := this.1; dsimp only at this; omega, rt_short this.2.1⟩
end Go.Proofs.YtppgifaegnmciaaDoor

namespace Go.Proofs.YtppgifaegnmciaaDoor
open Go.RowKit

/-- where calls lie -/
def Ops (w : World) (p : Option Addr) (l : List OpK) : Prop := l ≠ [] → ∃ g o, p = some ⟨g, o, none⟩ ∧ g < w.heap.size ∧ ∀ i (h : i < l.length) (j : Nat), j < 10 → w.cell? ⟨g, o + (i * 10 + j), none⟩ = l[i].cells[j]?
theorem Ops.below {w w' : World} {p : Option Addr} {l : List OpK} (h : Ops w p l) (k : Below w.heap.size w w') : Ops w' p l := fun hne => by
  obtain ⟨g, o, e, hg, hc⟩ := h hne
  refine ⟨g, o, e, Nat.lt_of_lt_of_le hg k.size, fun i hi j hj => ?_⟩
  rw [World.cell?_of_block (w := w) (k.block g hg)]
  exact hc i hi j hj
theorem Ops.facts {w : World} {p : Option Addr} {l : List OpK} (h : Ops w p l) (i : Nat) (hi : i < l.length) : ∃ g o, p = some ⟨g, o, none⟩ ∧ g < w.heap.size ∧
    w.cell? ⟨g, o + i * 10, none⟩ = some (.int .i64 l[i].kind) ∧ w.cell? ⟨g, o + i * 10 + 1, none⟩ = some (.int .i64 l[i].n) ∧ w.cell? ⟨g, o + i * 10 + 2, none⟩ = some (txt l[i].e.key) ∧ w.cell? ⟨g, o + i * 10 + 3, none⟩ = some (.int .i64 l[i].e.m.kind) ∧ w.cell? ⟨g, o + i * 10 + 4, none⟩ = some (txt l[i].e.m.text) ∧ w.cell? ⟨g, o + i * 10 + 5, none⟩ = some (.slice l[i].e.pp l[i].e.m.pairs.length l[i].e.pc) ∧ w.cell? ⟨g, o + i * 10 + 6, none⟩ = some (.slice l[i].e.ip l[i].e.m.items.length l[i].e.ic) ∧ w.cell? ⟨g, o + i * 10 + 7, none⟩ = some (.int .i64 l[i].e.m.px) ∧ w.cell? ⟨g, o + i * 10 + 8, none⟩ = some (.int .i64 l[i].e.m.py) ∧ w.cell? ⟨g, o + i * 10 + 9, none⟩ = some (.int .i64 l[i].e.ends) := by
  obtain ⟨g, o, e, hg, hc⟩ := h (fun e => by rw [e] at hi; simp at hi)
  have f := fun j hj => hc i hi j hj
  simp only [← Nat.add_assoc] at f
  exact ⟨g, o, e, hg, f 0 (by decide), f 1 (by decide), f 2 (by decide), f 3 (by decide), f 4 (by decide), f 5 (by decide), f 6 (by decide), f 7 (by decide), f 8 (by decide), f 9 (by decide)⟩
def small1 (o : OpK) : Bool := decide (o.e.m.pairs.length ≤ 300 ∧ o.e.m.items.length ≤ 300)
def fewB (l : List OpK) : Bool := decide (l.length ≤ 200) && l.all small1
theorem fewB_take {l : List OpK} {i : Nat} (h : i < l.length) : (l.take (i + 1)).all small1 = ((l.take i).all small1 && small1 l[i]) := by
  rw [List.take_succ_eq_append_getElem h, List.all_append]
  simp
end Go.Proofs.YtppgifaegnmciaaDoor
