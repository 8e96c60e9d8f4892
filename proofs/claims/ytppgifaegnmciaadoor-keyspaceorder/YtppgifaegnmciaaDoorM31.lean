/- KSp. -/
import Derived.Test.YtppgifaegnmciaaDoorM30
import Derived.Test.YtppgifaegnmciaaDoorM24
import Derived.Test.YtppgifaegnmciaaDoorM26
import Derived.Test.YtppgifaegnmciaaDoorM29
import Derived.Test.YtppgifaegnmciaaDoorM19
import Derived.Test.YtppgifaegnmciaaDoorM18
namespace Go.Proofs.YtppgifaegnmciaaDoor
open Go.RowKit

abbrev ptr (b : Nat) : Value := .pointer (some ⟨b, 0, none⟩)
abbrev Off (O : Nat → Prop) : Nat → Prop := fun k => ¬ O k
abbrev Grew (w : World) (O O' : Nat → Prop) : Prop := ∀ k, O' k → O k ∨ w.heap.size ≤ k
abbrev spC (room mem now soon : Int) (d mb : Nat) : Array Value := #[.int .i64 room, .int .i64 mem, .int .i64 now, .int .i64 soon, ptr d, .map (some mb)]
/-- what a call that turns a space leaves alone -/
structure Stp (w w' : World) (O O' A A' : Nat → Prop) : Prop where
  keep : Keep (Off O) w w'
  o : Grew w O O'
  a : Grew w A A'
theorem Stp.refl (w : World) (O A : Nat → Prop) : Stp w w O O A A := ⟨Keep.refl _ _, fun _ h => .inl h, fun _ h => .inl h⟩
theorem Stp.below {w w' : World} (h : Below w.heap.size w w') (O A : Nat → Prop) : Stp w w' O O A A := ⟨Keep.of_below h, fun _ h => .inl h, fun _ h => .inl h⟩
theorem Stp.trans {w w1 w2 : World} {O O1 O2 A A1 A2 : Nat → Prop} (h : Stp w w1 O O1 A A1) (k : Stp w1 w2 O1 O2 A1 A2) : Stp w w2 O O2 A A2 where
  keep := ⟨k.keep.os.trans h.keep.os, k.keep.tape.trans h.keep.tape, k.keep.output.trans h.keep.output, Nat.le_trans h.keep.size k.keep.size, fun i hi hp => (k.keep.block i (Nat.lt_of_lt_of_le hi h.keep.size) (fun h1 => by
    rcases h.o i h1 with h2 | h2
    · exact hp h2
    · omega)).trans (h.keep.block i hi hp)⟩
  o := fun i hi => by
    rcases k.o i hi with h1 | h1
    · exact h.o i h1
    · exact .inr (Nat.le_trans h.keep.size h1)
  a := fun i hi => by
    rcases k.a i hi with h1 | h1
    · exact h.a i h1
    · exact .inr (Nat.le_trans h.keep.size h1)
/-- a space in block b: its dict in block d, its map in block mb; O: its own blocks; A: these, and those that it reads alone -/
structure SpC (B : Nat) (w : World) (b d mb : Nat) (O A Od : Nat → Prop) (D : Dc.DM E8) (f : Int → Row) (room mem now soon : Int) : Prop where
  head : w.heap[b]? = some (.cells (spC room mem now soon d mb) 47 (0, 0))
  dq : Dc.DE.Dq B w d Od D
  map : MapIs (fun k => A k ∧ ¬ O k) w mb f
  own : ∀ k, O k ↔ k = b ∨ k = mb ∨ Od k
  bm : b ≠ mb
  bd : ¬ Od b
  md : ¬ Od mb
  sub : ∀ k, O k → A k
  lt : ∀ k, A k → B ≤ k ∧ k < w.heap.size
  lies : ∀ p ∈ D.L, Lies (fun k => A k ∧ ¬ O k) w p.2
theorem SpC.turn {B : Nat} {w w' : World} {b d mb : Nat} {O A Od : Nat → Prop} {D : Dc.DM E8} {f : Int → Row} {room mem now soon : Int} (h : SpC B w b d mb O A Od D f room mem now soon) (k : Keep (fun k => k < B ∨ A k) w w') : SpC B w' b d mb O A Od D f room mem now soon where
  head := (k.block b (h.lt b (h.sub b ((h.own b).2 (.inl rfl)))).2 (.inr (h.sub b ((h.own b).2 (.inl rfl))))).trans h.head
  dq := Dc.DE.dq_turn h.dq (fun i hi => by
    rcases hi with hi | hi
    · exact k.block i (Nat.lt_of_lt_of_le hi (Dc.DE.dq_base h.dq)) (.inl hi)
    · have hA := h.sub i ((h.own i).2 (.inr (.inr hi)))
      exact k.block i (h.lt i hA).2 (.inr hA)) k.size
  map := h.map.keep (k.mono (fun i hi => .inr hi.1)) (fun _ h => h) (k.block mb h.map.lt (.inr (h.sub mb ((h.own mb).2 (.inr (.inl rfl))))))
  own := h.own
  bm := h.bm
  bd := h.bd
  md := h.md
  sub := h.sub
  lt := fun i hi => ⟨(h.lt i hi).1, Nat.lt_of_lt_of_le (h.lt i hi).2 k.size⟩
  lies := fun p hp => (h.lies p hp).keep (k.mono (fun i hi => .inr hi.1)) (fun _ h => h)
theorem SpC.below {B : Nat} {w w' : World} {b d mb : Nat} {O A Od : Nat → Prop} {D : Dc.DM E8} {f : Int → Row} {room mem now soon : Int} (h : SpC B w b d mb O A Od D f room mem now soon) (k : Below w.heap.size w w') : SpC B w' b d mb O A Od D f room mem now soon := h.turn (Keep.of_below k)
theorem SpC.env {B : Nat} {w : World} {b d mb : Nat} {O A Od : Nat → Prop} {D : Dc.DM E8} {f : Int → Row} {room mem now soon : Int} (h : SpC B w b d mb O A Od D f room mem now soon) : Dc.DE.Env B w := by
  obtain ⟨g, nb, el, T, _, _, _, hE, _⟩ := h.dq
  exact hE
theorem SpC.tab {B : Nat} {w : World} {b d mb : Nat} {O A Od : Nat → Prop} {D : Dc.DM E8} {f : Int → Row} {room mem now soon : Int} (h : SpC B w b d mb O A Od D f room mem now soon) : Tab w := h.env.tab
theorem dq_ge {B : Nat} {w : World} {b : Nat} {O : Nat → Prop} {D : Dc.DM E8} (h : Dc.DE.Dq B w b O D) : ∀ k, O k → B ≤ k := by
  obtain ⟨g, nb, el, T, hO, hL, _, _, _⟩ := h
  exact fun k hk => (hL.lt k ((hO k).1 hk)).2
theorem dq_self {B : Nat} {w : World} {b : Nat} {O : Nat → Prop} {D : Dc.DM E8} (h : Dc.DE.Dq B w b O D) : O b := by
  obtain ⟨g, nb, el, T, hO, hL, _, _, _⟩ := h
  exact (hO b).2 (by rw [hL.tag]; simp)
theorem SpC.facts {B : Nat} {w : World} {b d mb : Nat} {O A Od : Nat → Prop} {D : Dc.DM E8} {f : Int → Row} {room mem now soon : Int} (h : SpC B w b d mb O A Od D f room mem now soon) :
    w.cell? ⟨b, 0, none⟩ = some (.int .i64 room) ∧ w.cell? ⟨b, 1, none⟩ = some (.int .i64 mem) ∧ w.cell? ⟨b, 2, none⟩ = some (.int .i64 now) ∧ w.cell? ⟨b, 3, none⟩ = some (.int .i64 soon) ∧ w.cell? ⟨b, 4, none⟩ = some (ptr d) ∧ w.cell? ⟨b, 5, none⟩ = some (.map (some mb)) :=
  ⟨cell_of_row w b 0 _ _ _ h.head, cell_of_row w b 1 _ _ _ h.head, cell_of_row w b 2 _ _ _ h.head, cell_of_row w b 3 _ _ _ h.head, cell_of_row w b 4 _ _ _ h.head, cell_of_row w b 5 _ _ _ h.head⟩
theorem SpC.frozen {B : Nat} {w : World} {b d mb : Nat} {O A Od : Nat → Prop} {D : Dc.DM E8} {f : Int → Row} {room mem now soon : Int} (h : SpC B w b d mb O A Od D f room mem now soon) (i : Nat) : w.frozen? ⟨b, i, none⟩ = false := frozen_of_row w b i _ _ h.head
theorem SpC.blt {B : Nat} {w : World} {b d mb : Nat} {O A Od : Nat → Prop} {D : Dc.DM E8} {f : Int → Row} {room mem now soon : Int} (h : SpC B w b d mb O A Od D f room mem now soon) : b < w.heap.size ∧ B ≤ b := by
  have := h.lt b (h.sub b ((h.own b).2 (.inl rfl)))
  exact ⟨this.2, this.1⟩
/-- the head alone turns -/
theorem SpC.rehead {B : Nat} {w w' : World} {b d mb : Nat} {O A Od : Nat → Prop} {D : Dc.DM E8} {f : Int → Row} {room mem now soon mem' now' soon' : Int} (h : SpC B w b d mb O A Od D f room mem now soon)
    (hb : w'.heap[b]? = some (.cells (spC room mem' now' soon' d mb) 47 (0, 0))) (o : OnlyB b w w') : SpC B w' b d mb O A Od D f room mem' now' soon' ∧ Stp w w' O O A A := by
  have hO : O b := (h.own b).2 (.inl rfl)
  have hF : Keep (fun k => A k ∧ ¬ O k) w w' := o.keep (fun h => h.2 hO)
  refine ⟨⟨hb, Dc.DE.dq_turn h.dq (fun i hi => o.block i ?_) (Nat.le_of_eq o.size.symm), h.map.keep hF (fun _ h => h) (o.block mb h.bm.symm), h.own, h.bm, h.bd, h.md, h.sub, fun i hi => by rw [o.size]; exact h.lt i hi, fun p hp => (h.lies p hp).keep hF (fun _ h => h)⟩, ⟨o.keep (fun h => h hO), fun _ h => .inl h, fun _ h => .inl h⟩⟩
  rcases hi with hi | hi
  · have := h.blt.2; omega
  · exact fun e => h.bd (e ▸ hi)
theorem onlyB_cell (w : World) (b i : Nat) (v : Value) : OnlyB b w (w.setCell ⟨b, i, none⟩ v) := ⟨rfl, rfl, rfl, by simp, fun k hk => heap_setCell_other _ _ _ _ hk⟩
theorem SpC.setMem {B : Nat} {w : World} {b d mb : Nat} {O A Od : Nat → Prop} {D : Dc.DM E8} {f : Int → Row} {room mem now soon : Int} (h : SpC B w b d mb O A Od D f room mem now soon) (x : Int) :
    SpC B (w.setCell ⟨b, 1, none⟩ (.int .i64 x)) b d mb O A Od D f room x now soon ∧ Stp w (w.setCell ⟨b, 1, none⟩ (.int .i64 x)) O O A A := h.rehead (heap_setCell_same _ b 1 _ _ _ h.head) (onlyB_cell _ _ _ _)
theorem SpC.setNow {B : Nat} {w : World} {b d mb : Nat} {O A Od : Nat → Prop} {D : Dc.DM E8} {f : Int → Row} {room mem now soon : Int} (h : SpC B w b d mb O A Od D f room mem now soon) (x : Int) :
    SpC B (w.setCell ⟨b, 2, none⟩ (.int .i64 x)) b d mb O A Od D f room mem x soon ∧ Stp w (w.setCell ⟨b, 2, none⟩ (.int .i64 x)) O O A A := h.rehead (heap_setCell_same _ b 2 _ _ _ h.head) (onlyB_cell _ _ _ _)
theorem SpC.setSoon {B : Nat} {w : World} {b d mb : Nat} {O A Od : Nat → Prop} {D : Dc.DM E8} {f : Int → Row} {room mem now soon : Int} (h : SpC B w b d mb O A Od D f room mem now soon) (x : Int) :
    SpC B (w.setCell ⟨b, 3, none⟩ (.int .i64 x)) b d mb O A Od D f room mem now x ∧ Stp w (w.setCell ⟨b, 3, none⟩ (.int .i64 x)) O O A A := h.rehead (heap_setCell_same _ b 3 _ _ _ h.head) (onlyB_cell _ _ _ _)
/-- the dict turns; a new entry's rows lie in blocks of N -/
theorem SpC.dict {B : Nat} {w w' : World} {b d mb : Nat} {O A Od Od' : Nat → Prop} {D D' : Dc.DM E8} {f : Int → Row} {room mem now soon : Int} (h : SpC B w b d mb O A Od D f room mem now soon) (N : Nat → Prop)
    (hq : Dc.DE.Dq B w' d Od' D') (hg : Grew w Od Od') (hk : Keep (Off Od) w w') (hN : ∀ k, N k → B ≤ k ∧ k < w.heap.size ∧ ¬ O k) (hl : ∀ p ∈ D'.L, p ∈ D.L ∨ Lies N w p.2) :
    SpC B w' b d mb (fun k => k = b ∨ k = mb ∨ Od' k) (fun k => A k ∨ N k ∨ Od' k) Od' D' f room mem now soon := by
  have hOd : ∀ k, Od k → O k := fun k hk => (h.own k).2 (.inr (.inr hk))
  have hnew : ∀ k, k < w.heap.size → ¬ O k → ¬ (k = b ∨ k = mb ∨ Od' k) := fun k hk hO => by
    rintro (rfl | rfl | h1)
    · exact hO ((h.own _).2 (.inl rfl))
    · exact hO ((h.own _).2 (.inr (.inl rfl)))
    · rcases hg k h1 with h2 | h2
      · exact hO (hOd k h2)
      · omega
  have hF : ∀ k, A k ∧ ¬ O k → (A k ∨ N k ∨ Od' k) ∧ ¬ (k = b ∨ k = mb ∨ Od' k) := fun k ⟨h1, h2⟩ => ⟨.inl h1, hnew k (h.lt k h1).2 h2⟩
  have kF : Keep (fun k => A k ∧ ¬ O k) w w' := hk.mono (fun k h1 h2 => h1.2 (hOd k h2))
  refine ⟨(hk.block b h.blt.1 h.bd).trans h.head, hq, h.map.keep kF hF (hk.block mb h.map.lt h.md), fun k => Iff.rfl, h.bm, fun h1 => ?_, fun h1 => ?_, fun k h1 => ?_, fun k h1 => ?_, fun p hp => ?_⟩
  · rcases hg b h1 with h2 | h2
    · exact h.bd h2
    · have := h.blt.1; omega
  · rcases hg mb h1 with h2 | h2
    · exact h.md h2
    · have := h.map.lt; omega
  · rcases h1 with rfl | rfl | h1
    · exact .inl (h.sub _ ((h.own _).2 (.inl rfl)))
    · exact .inl (h.sub _ ((h.own _).2 (.inr (.inl rfl))))
    · exact .inr (.inr h1)
  · rcases h1 with h1 | h1 | h1
    · exact ⟨(h.lt k h1).1, Nat.lt_of_lt_of_le (h.lt k h1).2 hk.size⟩
    · exact ⟨(hN k h1).1, Nat.lt_of_lt_of_le (hN k h1).2.1 hk.size⟩
    · exact ⟨dq_ge hq k h1, Dc.DE.dq_lt hq k h1⟩
  · rcases hl p hp with h1 | h1
    · exact (h.lies p h1).keep kF hF
    · exact h1.keep (hk.mono (fun k hn h2 => (hN k hn).2.2 (hOd k h2))) (fun k hn => ⟨.inr (.inl hn), hnew k (hN k hn).2.1 (hN k hn).2.2⟩)
theorem SpC.dict_stp {B : Nat} {w w' : World} {b d mb : Nat} {O A Od Od' : Nat → Prop} {D : Dc.DM E8} {f : Int → Row} {room mem now soon : Int} (h : SpC B w b d mb O A Od D f room mem now soon)
    (hg : Grew w Od Od') (hk : Keep (Off Od) w w') : Stp w w' O (fun k => k = b ∨ k = mb ∨ Od' k) A (fun k => A k ∨ Od' k) := by
  have hOd : ∀ k, Od k → O k := fun k hk => (h.own k).2 (.inr (.inr hk))
  refine ⟨hk.mono (fun k h1 h2 => h1 (hOd k h2)), fun k h1 => ?_, fun k h1 => ?_⟩
  · rcases h1 with rfl | rfl | h1
    · exact .inl ((h.own _).2 (.inl rfl))
    · exact .inl ((h.own _).2 (.inr (.inl rfl)))
    · exact (hg k h1).imp (hOd k) id
  · rcases h1 with h1 | h1
    · exact .inl h1
    · exact (hg k h1).imp (fun h2 => h.sub k (hOd k h2)) id
/-- the map turns; a new row lies in blocks of N -/
theorem SpC.mapd {B : Nat} {w w' : World} {b d mb : Nat} {O A Od : Nat → Prop} {D : Dc.DM E8} {f f' : Int → Row} {room mem now soon : Int} (h : SpC B w b d mb O A Od D f room mem now soon) (N : Nat → Prop)
    (hm : MapIs (fun k => (A k ∨ N k) ∧ ¬ O k) w' mb f') (o : OnlyB mb w w') (hN : ∀ k, N k → B ≤ k ∧ k < w.heap.size) : SpC B w' b d mb O (fun k => A k ∨ N k) Od D f' room mem now soon := by
  have hO : O mb := (h.own mb).2 (.inr (.inl rfl))
  have hF : Keep (fun k => A k ∧ ¬ O k) w w' := o.keep (fun h => h.2 hO)
  refine ⟨(o.block b h.bm).trans h.head, Dc.DE.dq_turn h.dq (fun i hi => o.block i ?_) (Nat.le_of_eq o.size.symm), hm, h.own, h.bm, h.bd, h.md, fun k hk => .inl (h.sub k hk), fun k hk => ?_, fun p hp => (h.lies p hp).keep hF (fun k hk => ⟨.inl hk.1, hk.2⟩)⟩
  · rcases hi with hi | hi
    · have := (h.lt mb (h.sub mb hO)).1; omega
    · exact fun e => h.md (e ▸ hi)
  · rw [o.size]
    rcases hk with hk | hk
    · exact h.lt k hk
    · exact hN k hk
/-- what a space's dict, map and numbers say of the list of its entries -/
structure SpL (D : Dc.DM E8) (f : Int → Row) (mem : Int) (L : List EP) : Prop where
  ent : ofD D.L = L
  key : KeyD D.L
  srt : Dc.Srt D.L
  slots : ∀ n, f n = slotL n L
  mem : mem = (memL L : Int)
  good : ∀ x ∈ L, x.1.length ≤ 1024 ∧ RtV x.2.1 ∧ 0 ≤ x.2.2 ∧ x.2.2 ≤ 1099511627776
  len : L.length ≤ 4096
  small : Dc.Small 4096 D
theorem SpL.srtL {D : Dc.DM E8} {f : Int → Row} {mem : Int} {L : List EP} (h : SpL D f mem L) : SrtL L := by rw [← h.ent]; exact ofD_srt h.srt h.key
theorem SpL.get {D : Dc.DM E8} {f : Int → Row} {mem : Int} {L : List EP} (h : SpL D f mem L) (k : Nm) : (Dc.getL k D.L).map pr8 = getL k L := by rw [ofD_get h.key, h.ent]
theorem SpL.dlen {D : Dc.DM E8} {f : Int → Row} {mem : Int} {L : List EP} (h : SpL D f mem L) : D.L.length = L.length := by rw [← h.ent]; simp
theorem SpL.small2 {D : Dc.DM E8} {f : Int → Row} {mem : Int} {L : List EP} (h : SpL D f mem L) : Dc.Small 100000 D := h.small.mono (by omega)
theorem tkE_le {x : EP} (h : x.1.length ≤ 1024) : tkE x ≤ 1001042 := by
  have := dumpS_max x.2.1
  unfold tkE
  omega
theorem memL_le : ∀ {L : List EP}, (∀ x ∈ L, x.1.length ≤ 1024) → memL L ≤ 1001042 * L.length
  | [], _ => by simp [memL]
  | x :: L, h => by
    have h1 := tkE_le (h x List.mem_cons_self)
    have h2 := memL_le (L := L) (fun y hy => h y (List.mem_cons_of_mem _ hy))
    rw [memL_cons, List.length_cons]
    omega
theorem SpL.memB {D : Dc.DM E8} {f : Int → Row} {mem : Int} {L : List EP} (h : SpL D f mem L) : 0 ≤ mem ∧ mem ≤ 4100268032 := by
  have h1 := memL_le (L := L) (fun x hx => (h.good x hx).1)
  have h2 := h.len
  rw [h.mem]
  omega
/-- no entry has ended, and none ends ahead of soon -/
structure Live (now soon : Int) (L : List EP) : Prop where
  live : ∀ x ∈ L, x.2.2 = 0 ∨ (now < x.2.2 ∧ soon ≤ x.2.2)
  now : 0 ≤ now ∧ now ≤ 1099511627776
  soon : 0 ≤ soon ∧ soon ≤ 1099511627777
def Sp (B : Nat) (w : World) (b : Nat) (O A : Nat → Prop) (L : List EP) (room now : Int) : Prop := ∃ d mb Od D f mem soon, SpC B w b d mb O A Od D f room mem now soon ∧ SpL D f mem L ∧ Live now soon L

end Go.Proofs.YtppgifaegnmciaaDoor
