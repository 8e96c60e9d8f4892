/- KSp, KS1. -/
import Derived.Test.YtcbncdigejjcpaaGreatDoorM21
import Derived.Test.YtcbncdigejjcpaaGreatDoorM30
import Derived.Test.YtcbncdigejjcpaaGreatDoorM31
import Derived.Test.YtcbncdigejjcpaaGreatDoorM28
import Derived.Test.YtcbncdigejjcpaaGreatDoorM12
import Derived.Deep.RegionLaw
namespace Go.Proofs.YtcbncdigejjcpaaGreatDoor
open Go.RowKit

abbrev ptr (b : Nat) : Value := .pointer (some ⟨b, 0, none⟩)
abbrev Off (O : Nat → Prop) : Nat → Prop := fun k => ¬ O k
abbrev Grew (w : World) (O O' : Nat → Prop) : Prop := ∀ k, O' k → O k ∨ w.heap.size ≤ k
abbrev spC (room mem now soon : Int) (d mb : Nat) : Array Value := #[.int .i64 room, .int .i64 mem, .int .i64 now, .int .i64 soon, ptr d, .map (some mb)]
/-- what a call that turns a space leaves alone -/
structure Stp (w w' : World) (O O' A A' : Nat → Prop) : Prop where
  keep : Keep (Off O) w w'
  o : Grew w O O'
  a : Grew w A A'
theorem Stp.refl (w : World) (O A : Nat → Prop) : Stp w w O O A A := ⟨Keep.refl _ _, fun _ h => .inl h, fun _ h => .inl h⟩
theorem Stp.below {w w' : World} (h : Below w.heap.size w w') (O A : Nat → Prop) : Stp w w' O O A A := ⟨Keep.of_below h, fun _ h => .inl h, fun _ h => .inl h⟩
theorem Stp.trans {w w1 w2 : World} {O O1 O2 A A1 A2 : Nat → Prop} (h : Stp w w1 O O1 A A1) (k : Stp w1 w2 O1 O2 A1 A2) : Stp w w2 O O2 A A2 where
  keep := ⟨k.keep.os.trans h.keep.os, k.keep.tape.trans h.keep.tape, k.keep.output.trans h.keep.output, Nat.le_trans h.keep.size k.keep.size, fun i hi hp => (k.keep.block i (Nat.lt_of_lt_of_le hi h.keep.size) (fun h1 => by
    rcases h.o i h1 with h2 | h2
    · exact hp h2
    · omega)).trans (h.keep.block i hi hp)⟩
  o := fun i hi => by
    rcases k.o i hi with h1 | h1
    · exact h.o i h1
    · exact .inr (Nat.le_trans h.keep.size h1)
  a := fun i hi => by
    rcases k.a i hi with h1 | h1
    · exact h.a i h1
    · exact .inr (Nat.le_trans h.keep.size h1)
/-- a space in block b: its dict in block d, its map in block mb; O: its own blocks; A: these, and those that it reads alone -/
structure SpC (B : Nat) (w : World) (b d mb : Nat) (O A Od : Nat → Prop) (D : Dc.DM E8) (f : Int → Row) (room mem now soon : Int) : Prop where
  head : w.heap[b]? = some (.cells (spC room mem now soon d mb) 66 (0, 0))
  dq : Dc.DE.Dq B w d Od D
  map : MapIs (fun k => A k ∧ ¬ O k) w mb f
  own : ∀ k, O k ↔ k = b ∨ k = mb ∨ Od k
  bm : b ≠ mb
  bd : ¬ Od b
  md : ¬ Od mb
  sub : ∀ k, O k → A k
  lt : ∀ k, A k → B ≤ k ∧ k < w.heap.size
  lies : ∀ p ∈ D.L, Lies (fun k => A k ∧ ¬ O k) w p.2
theorem SpC.turn {B : Nat} {w w' : World} {b d mb : Nat} {O A Od : Nat → Prop} {D : Dc.DM E8} {f : Int → Row} {room mem now soon : Int} (h : SpC B w b d mb O A Od D f room mem now soon) (k : Keep (fun k => k < B ∨ A k) w w') : SpC B w' b d mb O A Od D f room mem now soon where
  head := (k.block b (h.lt b (h.sub b ((h.own b).2 (.inl rfl)))).2 (.inr (h.sub b ((h.own b).2 (.inl rfl))))).trans h.head
  dq := Dc.DE.dq_turn h.dq (fun i hi => by
    rcases hi with hi | hi
    · exact k.block i (Nat.lt_of_lt_of_le hi (Dc.DE.dq_base h.dq)) (.inl hi)
    · have hA := h.sub i ((h.own i).2 (.inr (.inr hi)))
      exact k.block i (h.lt i hA).2 (.inr hA)) k.size
  map := h.map.keep (k.mono (fun i hi => .inr hi.1)) (fun _ h => h) (k.block mb h.map.lt (.inr (h.sub mb ((h.own mb).2 (.inr (.inl rfl))))))
  own := h.own
  bm := h.bm
  bd := h.bd
  md := h.md
  sub := h.sub
  lt := fun i hi => ⟨(h.lt i hi).1, Nat.lt_of_lt_of_le (h.lt i hi).2 k.size⟩
  lies := fun p hp => (h.lies p hp).keep (k.mono (fun i hi => .inr hi.1)) (fun _ h => h)
theorem SpC.below {B : Nat} {w w' : World} {b d mb : Nat} {O A Od : Nat → Prop} {D : Dc.DM E8} {f : Int → Row} {room mem now soon : Int} (h : SpC B w b d mb O A Od D f room mem now soon) (k : Below w.heap.size w w') : SpC B w' b d mb O A Od D f room mem now soon := h.turn (Keep.of_below k)
theorem SpC.env {B : Nat} {w : World} {b d mb : Nat} {O A Od : Nat → Prop} {D : Dc.DM E8} {f : Int → Row} {room mem now soon : Int} (h : SpC B w b d mb O A Od D f room mem now soon) : Dc.DE.Env B w := by
  obtain ⟨g, nb, el, T, _, _, _, hE, _⟩ := h.dq
  exact hE
theorem SpC.tab {B : Nat} {w : World} {b d mb : Nat} {O A Od : Nat → Prop} {D : Dc.DM E8} {f : Int → Row} {room mem now soon : Int} (h : SpC B w b d mb O A Od D f room mem now soon) : Tab w := h.env.tab
theorem dq_ge {B : Nat} {w : World} {b : Nat} {O : Nat → Prop} {D : Dc.DM E8} (h : Dc.DE.Dq B w b O D) : ∀ k, O k → B ≤ k := by
  obtain ⟨g, nb, el, T, hO, hL, _, _, _⟩ := h
  exact fun k hk => (hL.lt k ((hO k).1 hk)).2
theorem SpC.facts {B : Nat} {w : World} {b d mb : Nat} {O A Od : Nat → Prop} {D : Dc.DM E8} {f : Int → Row} {room mem now soon : Int} (h : SpC B w b d mb O A Od D f room mem now soon) :
    w.cell? ⟨b, 0, none⟩ = some (.int .i64 room) ∧ w.cell? ⟨b, 1, none⟩ = some (.int .i64 mem) ∧ w.cell? ⟨b, 2, none⟩ = some (.int .i64 now) ∧ w.cell? ⟨b, 3, none⟩ = some (.int .i64 soon) ∧ w.cell? ⟨b, 4, none⟩ = some (ptr d) ∧ w.cell? ⟨b, 5, none⟩ = some (.map (some mb)) :=
  ⟨cell_of_row w b 0 _ _ _ h.head, cell_of_row w b 1 _ _ _ h.head, cell_of_row w b 2 _ _ _ h.head, cell_of_row w b 3 _ _ _ h.head, cell_of_row w b 4 _ _ _ h.head, cell_of_row w b 5 _ _ _ h.head⟩
theorem SpC.frozen {B : Nat} {w : World} {b d mb : Nat} {O A Od : Nat → Prop} {D : Dc.DM E8} {f : Int → Row} {room mem now soon : Int} (h : SpC B w b d mb O A Od D f room mem now soon) (i : Nat) : w.frozen? ⟨b, i, none⟩ = false := frozen_of_row w b i _ _ h.head
theorem SpC.blt {B : Nat} {w : World} {b d mb : Nat} {O A Od : Nat → Prop} {D : Dc.DM E8} {f : Int → Row} {room mem now soon : Int} (h : SpC B w b d mb O A Od D f room mem now soon) : b < w.heap.size ∧ B ≤ b := by
  have := h.lt b (h.sub b ((h.own b).2 (.inl rfl)))
  exact ⟨this.2, this.1⟩
/-- the head alone turns -/
theorem SpC.rehead {B : Nat} {w w' : World} {b d mb : Nat} {O A Od : Nat → Prop} {D : Dc.DM E8} {f : Int → Row} {room mem now soon mem' now' soon' : Int} (h : SpC B w b d mb O A Od D f room mem now soon)
    (hb : w'.heap[b]? = some (.cells (spC room mem' now' soon' d mb) 66 (0, 0))) (o : OnlyB b w w') : SpC B w' b d mb O A Od D f room mem' now' soon' ∧ Stp w w' O O A A := by
  have hO : O b := (h.own b).2 (.inl rfl)
  have hF : Keep (fun k => A k ∧ ¬ O k) w w' := o.keep (fun h => h.2 hO)
  refine ⟨⟨hb, Dc.DE.dq_turn h.dq (fun i hi => o.block i ?_) (Nat.le_of_eq o.size.symm), h.map.keep hF (fun _ h => h) (o.block mb h.bm.symm), h.own, h.bm, h.bd, h.md, h.sub, fun i hi => by rw [o.size]; exact h.lt i hi, fun p hp => (h.lies p hp).keep hF (fun _ h => h)⟩, ⟨o.keep (fun h => h hO), fun _ h => .inl h, fun _ h => .inl h⟩⟩
  rcases hi with hi | hi
  · have := h.blt.2; omega
  · exact fun e => h.bd (e ▸ hi)
theorem onlyB_cell (w : World) (b i : Nat) (v : Value) : OnlyB b w (w.setCell ⟨b, i, none⟩ v) := ⟨rfl, rfl, rfl, by simp, fun k hk => heap_setCell_other _ _ _ _ hk⟩
theorem SpC.setMem {B : Nat} {w : World} {b d mb : Nat} {O A Od : Nat → Prop} {D : Dc.DM E8} {f : Int → Row} {room mem now soon : Int} (h : SpC B w b d mb O A Od D f room mem now soon) (x : Int) :
    SpC B (w.setCell ⟨b, 1, none⟩ (.int .i64 x)) b d mb O A Od D f room x now soon ∧ Stp w (w.setCell ⟨b, 1, none⟩ (.int .i64 x)) O O A A := h.rehead (heap_setCell_same _ b 1 _ _ _ h.head) (onlyB_cell _ _ _ _)
theorem SpC.setNow {B : Nat} {w : World} {b d mb : Nat} {O A Od : Nat → Prop} {D : Dc.DM E8} {f : Int → Row} {room mem now soon : Int} (h : SpC B w b d mb O A Od D f room mem now soon) (x : Int) :
    SpC B (w.setCell ⟨b, 2, none⟩ (.int .i64 x)) b d mb O A Od D f room mem x soon ∧ Stp w (w.setCell ⟨b, 2, none⟩ (.int .i64 x)) O O A A := h.rehead (heap_setCell_same _ b 2 _ _ _ h.head) (onlyB_cell _ _ _ _)
theorem SpC.setSoon {B : Nat} {w : World} {b d mb : Nat} {O A Od : Nat → Prop} {D : Dc.DM E8} {f : Int → Row} {room mem now soon : Int} (h : SpC B w b d mb O A Od D f room mem now soon) (x : Int) :
    SpC B (w.setCell ⟨b, 3, none⟩ (.int .i64 x)) b d mb O A Od D f room mem now x ∧ Stp w (w.setCell ⟨b, 3, none⟩ (.int .i64 x)) O O A A := h.rehead (heap_setCell_same _ b 3 _ _ _ h.head) (onlyB_cell _ _ _ _)
/-- the dict turns; a new entry's rows lie in blocks of N -/
theorem SpC.dict {B : Nat} {w w' : World} {b d mb : Nat} {O A Od Od' : Nat → Prop} {D D' : Dc.DM E8} {f : Int → Row} {room mem now soon : Int} (h : SpC B w b d mb O A Od D f room mem now soon) (N : Nat → Prop)
    (hq : Dc.DE.Dq B w' d Od' D') (hg : Grew w Od Od') (hk : Keep (Off Od) w w') (hN : ∀ k, N k → B ≤ k ∧ k < w.heap.size ∧ ¬ O k) (hl : ∀ p ∈ D'.L, p ∈ D.L ∨ Lies N w p.2) :
    SpC B w' b d mb (fun k => k = b ∨ k = mb ∨ Od' k) (fun k => A k ∨ N k ∨ Od' k) Od' D' f room mem now soon := by
  have hOd : ∀ k, Od k → O k := fun k hk => (h.own k).2 (.inr (.inr hk))
  have hnew : ∀ k, k < w.heap.size → ¬ O k → ¬ (k = b ∨ k = mb ∨ Od' k) := fun k hk hO => by
    rintro (rfl | rfl | h1)
    · exact hO ((h.own _).2 (.inl rfl))
    · exact hO ((h.own _).2 (.inr (.inl rfl)))
    · rcases hg k h1 with h2 | h2
      · exact hO (hOd k h2)
      · omega
  have hF : ∀ k, A k ∧ ¬ O k → (A k ∨ N k ∨ Od' k) ∧ ¬ (k = b ∨ k = mb ∨ Od' k) := fun k ⟨h1, h2⟩ => ⟨.inl h1, hnew k (h.lt k h1).2 h2⟩
  have kF : Keep (fun k => A k ∧ ¬ O k) w w' := hk.mono (fun k h1 h2 => h1.2 (hOd k h2))
  refine ⟨(hk.block b h.blt.1 h.bd).trans h.head, hq, h.map.keep kF hF (hk.block mb h.map.lt h.md), fun k => Iff.rfl, h.bm, fun h1 => ?_, fun h1 => ?_, fun k h1 => ?_, fun k h1 => ?_, fun p hp => ?_⟩
  · rcases hg b h1 with h2 | h2
    · exact h.bd h2
    · have := h.blt.1; omega
  · rcases hg mb h1 with h2 | h2
    · exact h.md h2
    · have := h.map.lt; omega
  · rcases h1 with rfl | rfl | h1
    · exact .inl (h.sub _ ((h.own _).2 (.inl rfl)))
    · exact .inl (h.sub _ ((h.own _).2 (.inr (.inl rfl))))
    · exact .inr (.inr h1)
  · rcases h1 with h1 | h1 | h1
    · exact ⟨(h.lt k h1).1, Nat.lt_of_lt_of_le (h.lt k h1).2 hk.size⟩
    · exact ⟨(hN k h1).1, Nat.lt_of_lt_of_le (hN k h1).2.1 hk.size⟩
    · exact ⟨dq_ge hq k h1, Dc.DE.dq_lt hq k h1⟩
  · rcases hl p hp with h1 | h1
    · exact (h.lies p h1).keep kF hF
    · exact h1.keep (hk.mono (fun k hn h2 => (hN k hn).2.2 (hOd k h2))) (fun k hn => ⟨.inr (.inl hn), hnew k (hN k hn).2.1 (hN k hn).2.2⟩)
theorem SpC.dict_stp {B : Nat} {w w' : World} {b d mb : Nat} {O A Od Od' : Nat → Prop} {D : Dc.DM E8} {f : Int → Row} {room mem now soon : Int} (h : SpC B w b d mb O A Od D f room mem now soon)
    (hg : Grew w Od Od') (hk : Keep (Off Od) w w') : Stp w w' O (fun k => k = b ∨ k = mb ∨ Od' k) A (fun k => A k ∨ Od' k) := by
  have hOd : ∀ k, Od k → O k := fun k hk => (h.own k).2 (.inr (.inr hk))
  refine ⟨hk.mono (fun k h1 h2 => h1 (hOd k h2)), fun k h1 => ?_, fun k h1 => ?_⟩
  · rcases h1 with rfl | rfl | h1
    · exact .inl ((h.own _).2 (.inl rfl))
    · exact .inl ((h.own _).2 (.inr (.inl rfl)))
    · exact (hg k h1).imp (hOd k) id
  · rcases h1 with h1 | h1
    · exact .inl h1
    · exact (hg k h1).imp (fun h2 => h.sub k (hOd k h2)) id
/-- the map turns; a new row lies in blocks of N -/
theorem SpC.mapd {B : Nat} {w w' : World} {b d mb : Nat} {O A Od : Nat → Prop} {D : Dc.DM E8} {f f' : Int → Row} {room mem now soon : Int} (h : SpC B w b d mb O A Od D f room mem now soon) (N : Nat → Prop)
    (hm : MapIs (fun k => (A k ∨ N k) ∧ ¬ O k) w' mb f') (o : OnlyB mb w w') (hN : ∀ k, N k → B ≤ k ∧ k < w.heap.size) : SpC B w' b d mb O (fun k => A k ∨ N k) Od D f' room mem now soon := by
  have hO : O mb := (h.own mb).2 (.inr (.inl rfl))
  have hF : Keep (fun k => A k ∧ ¬ O k) w w' := o.keep (fun h => h.2 hO)
  refine ⟨(o.block b h.bm).trans h.head, Dc.DE.dq_turn h.dq (fun i hi => o.block i ?_) (Nat.le_of_eq o.size.symm), hm, h.own, h.bm, h.bd, h.md, fun k hk => .inl (h.sub k hk), fun k hk => ?_, fun p hp => (h.lies p hp).keep hF (fun k hk => ⟨.inl hk.1, hk.2⟩)⟩
  · rcases hi with hi | hi
    · have := (h.lt mb (h.sub mb hO)).1; omega
    · exact fun e => h.md (e ▸ hi)
  · rw [o.size]
    rcases hk with hk | hk
    · exact h.lt k hk
    · exact hN k hk
/-- what a space's dict, map and numbers say of the list of its entries -/
structure SpL (D : Dc.DM E8) (f : Int → Row) (mem : Int) (L : List EP) : Prop where
  ent : ofD D.L = L
  key : KeyD D.L
  srt : Dc.Srt D.L
  slots : ∀ n, f n = slotL n L
  mem : mem = (memL L : Int)
  good : ∀ x ∈ L, x.1.length ≤ 1024 ∧ RtV x.2.1 ∧ 0 ≤ x.2.2 ∧ x.2.2 ≤ 1099511627776
  len : L.length ≤ 4096
  small : Dc.Small 4096 D
theorem SpL.srtL {D : Dc.DM E8} {f : Int → Row} {mem : Int} {L : List EP} (h : SpL D f mem L) : SrtL L := by rw [← h.ent]; exact ofD_srt h.srt h.key
theorem SpL.get {D : Dc.DM E8} {f : Int → Row} {mem : Int} {L : List EP} (h : SpL D f mem L) (k : Nm) : (Dc.getL k D.L).map pr8 = getL k L := by rw [ofD_get h.key, h.ent]
theorem SpL.dlen {D : Dc.DM E8} {f : Int → Row} {mem : Int} {L : List EP} (h : SpL D f mem L) : D.L.length = L.length := by rw [← h.ent]; simp
theorem SpL.small2 {D : Dc.DM E8} {f : Int → Row} {mem : Int} {L : List EP} (h : SpL D f mem L) : Dc.Small 100000 D := h.small.mono (by omega)
theorem tkE_le {x : EP} (h : x.1.length ≤ 1024) : tkE x ≤ 1001042 := by
  have := dumpS_max x.2.1
  unfold tkE
  omega
theorem memL_le : ∀ {L : List EP}, (∀ x ∈ L, x.1.length ≤ 1024) → memL L ≤ 1001042 * L.length
  | [], _ => by simp [memL]
  | x :: L, h => by
    have h1 := tkE_le (h x List.mem_cons_self)
    have h2 := memL_le (L := L) (fun y hy => h y (List.mem_cons_of_mem _ hy))
    rw [memL_cons, List.length_cons]
    omega
theorem SpL.memB {D : Dc.DM E8} {f : Int → Row} {mem : Int} {L : List EP} (h : SpL D f mem L) : 0 ≤ mem ∧ mem ≤ 4100268032 := by
  have h1 := memL_le (L := L) (fun x hx => (h.good x hx).1)
  have h2 := h.len
  rw [h.mem]
  omega
/-- no entry has ended, and none ends ahead of soon -/
structure Live (now soon : Int) (L : List EP) : Prop where
  live : ∀ x ∈ L, x.2.2 = 0 ∨ (now < x.2.2 ∧ soon ≤ x.2.2)
  now : 0 ≤ now ∧ now ≤ 1099511627776
  soon : 0 ≤ soon ∧ soon ≤ 1099511627777
def Sp (B : Nat) (w : World) (b : Nat) (O A : Nat → Prop) (L : List EP) (room now : Int) : Prop := ∃ d mb Od D f mem soon, SpC B w b d mb O A Od D f room mem now soon ∧ SpL D f mem L ∧ Live now soon L

end Go.Proofs.YtcbncdigejjcpaaGreatDoor

namespace Go.Proofs.YtcbncdigejjcpaaGreatDoor
open Go.RowKit

set_option maxHeartbeats 1000000 in
set_option maxRecDepth 100000 in
/-- takes -/
theorem ktakes_any (x : E8) (w : World) (hT : Tab w) (hC : Came x.m) (hk : x.key.length ≤ 140737488351232) (hV : VI w x.m x.pp x.pc x.ip x.ic) :
    Calls Tryz.prog 58 #[ev x] w fun e w' => e = .returned (.int .i64 (tk x : Int)) ∧ Hid (Below w.heap.size w w') := by
  have HA := hid (below_alloc w (eob x))
  have HX := hid (ent_new w x)
  have HV := hid (hV.below HA.out)
  have hkz : (x.key.length : Int) ≤ 140737488351232 := by omega
  have hdl := dumpS_max x.m
  have hdz : ((dumpS x.m).length : Int) ≤ 1000002 := by omega
  have htk : (tk x : Int) = 16 + (x.key.length : Int) + ((dumpS x.m).length : Int) := by unfold tk; omega
  rw [htk]
  have HAd : Hid (Below w.heap.size w (w.alloc (eob x)).drew) := HA.out.drew
  have HVd : Hid (VI (w.alloc (eob x)).drew x.m x.pp x.pc x.ip x.ic) := HV.out.below ((Below.refl _ _).drew)
  have HS := hid (psize_any x.m x.pp x.pc x.ip x.ic _ (hT.env HAd.out) hC HVd.out)
  have hd0 : (0 : Int) ≤ ((dumpS x.m).length : Int) := by omega
  generalize ((dumpS x.m).length : Int) = D at *
  obtain ⟨c0, c1, c2, c3, c4, c5, c6, c7⟩ := ent_facts HX.out
  have hw1 : IntKind.i64.wrap (16 + (x.key.length : Int)) = 16 + (x.key.length : Int) := by rw [IntKind.wrap_i64]; omega
  have hw2 : IntKind.i64.wrap (16 + (x.key.length : Int) + D) = 16 + (x.key.length : Int) + D := by rw [IntKind.wrap_i64]; omega
  clear hT hC hV hk hdl htk
  go_enter Tryz.func58, Tryz.ntmps58
  go_wp2_with fail
  go_region_held3 (fun w' => w'.cell? ⟨w.heap.size, 0, none⟩ = some (txt x.key) ∧ w'.cell? ⟨w.heap.size, 1, none⟩ = some (.int .i64 x.m.kind) ∧ w'.cell? ⟨w.heap.size, 2, none⟩ = some (txt x.m.text) ∧ w'.cell? ⟨w.heap.size, 3, none⟩ = some (.slice x.pp x.m.pairs.length x.pc) ∧ w'.cell? ⟨w.heap.size, 4, none⟩ = some (.slice x.ip x.m.items.length x.ic) ∧ w'.cell? ⟨w.heap.size, 5, none⟩ = some (.int .i64 x.m.px) ∧ w'.cell? ⟨w.heap.size, 6, none⟩ = some (.int .i64 x.m.py))
    (first | exact ⟨c0, c1, c2, c3, c4, c5, c6⟩ | exact ⟨d0, d1, d2, d3, d4, d5, d6⟩ | go_keep)
    (first
      | (go_at_call 140; refine HS.out.mono ?_; rintro e w1 ⟨rfl, hh⟩; have HW1 := hid (HAd.out.trans (hh.out.mono HAd.out.size)); obtain ⟨d0, d1, d2, d3, d4, d5, d6, d7⟩ := ent_facts ((hh.out.block w.heap.size (by simp)).trans HX.out); clear hh))
  all_goals go_wp2_with fail
  all_goals go_ret
  all_goals exact ⟨rfl, HW1.out⟩
theorem ret_ent {fn : Func} {p : Tmp} (h : fn.results = #[.cell p 51]) {tmps : Array Value} {w : World} {b : Nat} {c0 c1 c2 c3 c4 c5 c6 c7 : Value} (hp : tmps.getD p undef = .pointer (some ⟨b, 0, none⟩)) (hB : w.heap[b]? = some (.cells #[c0, c1, c2, c3, c4, c5, c6, c7] 51 (0, 0))) :
    (results fn tmps).run Tryz.prog w = .ok (.agg #[c0, c1, c2, c3, c4, c5, c6, c7]) w := by
  have hp' : tmps[p]?.getD undef = .pointer (some ⟨b, 0, none⟩) := by simpa using hp
  simp [results, h, hp', asAddr, run_loadVar_row w b 51 51 #[c0, c1, c2, c3, c4, c5, c6, c7] (0, 0) _ hB Tryz.underlying51 rfl (infoE _ rfl)]
/-- cells 1 to 6 of an entry are stored -/
theorem set6_ent {W : World} {b : Nat} {c0 c1 c2 c3 c4 c5 c6 c7 : Value} (v1 v2 v3 v4 v5 v6 : Value) (h : W.heap[b]? = some (.cells #[c0, c1, c2, c3, c4, c5, c6, c7] 51 (0, 0))) : ((((((W.setCell ⟨b, 1, none⟩ v1).setCell ⟨b, 2, none⟩ v2).setCell ⟨b, 3, none⟩ v3).setCell ⟨b, 4, none⟩ v4).setCell ⟨b, 5, none⟩ v5).setCell ⟨b, 6, none⟩ v6).heap[b]? = some (.cells #[c0, v1, v2, v3, v4, v5, v6, c7] 51 (0, 0)) := by
  have h1 : (W.setCell ⟨b, 1, none⟩ v1).heap[b]? = some (.cells #[c0, v1, c2, c3, c4, c5, c6, c7] 51 (0, 0)) := heap_setCell_same _ b 1 _ _ _ h
  have h2 : ((W.setCell ⟨b, 1, none⟩ v1).setCell ⟨b, 2, none⟩ v2).heap[b]? = some (.cells #[c0, v1, v2, c3, c4, c5, c6, c7] 51 (0, 0)) := heap_setCell_same _ b 2 _ _ _ h1
  have h3 : (((W.setCell ⟨b, 1, none⟩ v1).setCell ⟨b, 2, none⟩ v2).setCell ⟨b, 3, none⟩ v3).heap[b]? = some (.cells #[c0, v1, v2, v3, c4, c5, c6, c7] 51 (0, 0)) := heap_setCell_same _ b 3 _ _ _ h2
  have h4 : ((((W.setCell ⟨b, 1, none⟩ v1).setCell ⟨b, 2, none⟩ v2).setCell ⟨b, 3, none⟩ v3).setCell ⟨b, 4, none⟩ v4).heap[b]? = some (.cells #[c0, v1, v2, v3, v4, c5, c6, c7] 51 (0, 0)) := heap_setCell_same _ b 4 _ _ _ h3
  have h5 : (((((W.setCell ⟨b, 1, none⟩ v1).setCell ⟨b, 2, none⟩ v2).setCell ⟨b, 3, none⟩ v3).setCell ⟨b, 4, none⟩ v4).setCell ⟨b, 5, none⟩ v5).heap[b]? = some (.cells #[c0, v1, v2, v3, v4, v5, c6, c7] 51 (0, 0)) := heap_setCell_same _ b 5 _ _ _ h4
  exact heap_setCell_same _ b 6 _ _ _ h5
theorem set6_other (W : World) (b k : Nat) (hk : k ≠ b) (v1 v2 v3 v4 v5 v6 : Value) : ((((((W.setCell ⟨b, 1, none⟩ v1).setCell ⟨b, 2, none⟩ v2).setCell ⟨b, 3, none⟩ v3).setCell ⟨b, 4, none⟩ v4).setCell ⟨b, 5, none⟩ v5).setCell ⟨b, 6, none⟩ v6).heap[k]? = W.heap[k]? := by
  rw [heap_setCell_other _ _ _ _ hk, heap_setCell_other _ _ _ _ hk, heap_setCell_other _ _ _ _ hk, heap_setCell_other _ _ _ _ hk, heap_setCell_other _ _ _ _ hk, heap_setCell_other _ _ _ _ hk]
theorem set6_onlyB (W : World) (b : Nat) (v1 v2 v3 v4 v5 v6 : Value) : OnlyB b W ((((((W.setCell ⟨b, 1, none⟩ v1).setCell ⟨b, 2, none⟩ v2).setCell ⟨b, 3, none⟩ v3).setCell ⟨b, 4, none⟩ v4).setCell ⟨b, 5, none⟩ v5).setCell ⟨b, 6, none⟩ v6) := by
  have s1 : ∀ (w : World) (i : Nat) (u : Value), (w.setCell ⟨b, i, none⟩ u).os = w.os := fun _ _ _ => rfl
  have s2 : ∀ (w : World) (i : Nat) (u : Value), (w.setCell ⟨b, i, none⟩ u).tape = w.tape := fun _ _ _ => rfl
  have s3 : ∀ (w : World) (i : Nat) (u : Value), (w.setCell ⟨b, i, none⟩ u).output = w.output := fun _ _ _ => rfl
  have s4 : ∀ (w : World) (i : Nat) (u : Value), (w.setCell ⟨b, i, none⟩ u).heap.size = w.heap.size := fun _ _ _ => by simp
  exact ⟨by rw [s1, s1, s1, s1, s1, s1], by rw [s2, s2, s2, s2, s2, s2], by rw [s3, s3, s3, s3, s3, s3], by rw [s4, s4, s4, s4, s4, s4], fun k hk => set6_other W b k hk v1 v2 v3 v4 v5 v6⟩
theorem set8_onlyB (W : World) (b : Nat) (v0 v1 v2 v3 v4 v5 v6 v7 : Value) : OnlyB b W ((((((((W.setCell ⟨b, 0, none⟩ v0).setCell ⟨b, 1, none⟩ v1).setCell ⟨b, 2, none⟩ v2).setCell ⟨b, 3, none⟩ v3).setCell ⟨b, 4, none⟩ v4).setCell ⟨b, 5, none⟩ v5).setCell ⟨b, 6, none⟩ v6).setCell ⟨b, 7, none⟩ v7) := by
  have s1 : ∀ (w : World) (i : Nat) (u : Value), (w.setCell ⟨b, i, none⟩ u).os = w.os := fun _ _ _ => rfl
  have s2 : ∀ (w : World) (i : Nat) (u : Value), (w.setCell ⟨b, i, none⟩ u).tape = w.tape := fun _ _ _ => rfl
  have s3 : ∀ (w : World) (i : Nat) (u : Value), (w.setCell ⟨b, i, none⟩ u).output = w.output := fun _ _ _ => rfl
  have s4 : ∀ (w : World) (i : Nat) (u : Value), (w.setCell ⟨b, i, none⟩ u).heap.size = w.heap.size := fun _ _ _ => by simp
  have s5 : ∀ (w : World) (i : Nat) (u : Value) (k : Nat), k ≠ b → (w.setCell ⟨b, i, none⟩ u).heap[k]? = w.heap[k]? := fun _ _ _ k hk => heap_setCell_other _ _ _ _ hk
  exact ⟨by rw [s1, s1, s1, s1, s1, s1, s1, s1], by rw [s2, s2, s2, s2, s2, s2, s2, s2], by rw [s3, s3, s3, s3, s3, s3, s3, s3], by rw [s4, s4, s4, s4, s4, s4, s4, s4], fun k hk => by rw [s5 _ _ _ _ hk, s5 _ _ _ _ hk, s5 _ _ _ _ hk, s5 _ _ _ _ hk, s5 _ _ _ _ hk, s5 _ _ _ _ hk, s5 _ _ _ _ hk, s5 _ _ _ _ hk]⟩
theorem OnlyB.below {b n : Nat} {w0 w w' : World} (h : OnlyB b w w') (hb : Below n w0 w) (hn : n ≤ b) : Below n w0 w' := ⟨h.os.trans hb.os, h.tape.trans hb.tape, h.output.trans hb.output, Nat.le_trans hb.size (Nat.le_of_eq h.size.symm), fun k hk => (h.block k (by omega)).trans (hb.block k hk)⟩
/-- an entry of the call's own: its rows are fresh, and may be written -/
structure OwnEn (n : Nat) (w : World) (y : E8) : Prop where
  vi : VI w y.m y.pp y.pc y.ip y.ic
  wt : Wt n w y.pp y.ip y.m.pairs.length y.m.items.length
  room : Roomy n w y.pp y.pc y.m.pairs.length
theorem OwnEn.lies {n : Nat} {w : World} {y : E8} (h : OwnEn n w y) : Lies (fun k => n ≤ k ∧ k < w.heap.size) w y := by
  refine ⟨h.vi, fun hne a ha => ?_, fun hne a ha => ?_⟩
  · obtain ⟨g, o, cs, h1, h2, h3⟩ := h.wt.pairs (List.length_pos_iff.2 hne)
    rw [ha] at h1
    injection h1 with h1
    rw [h1]
    exact ⟨h2, (Array.getElem?_eq_some_iff.1 h3).1⟩
  · obtain ⟨g, o, cs, h1, h2, h3⟩ := h.wt.items (List.length_pos_iff.2 hne)
    rw [ha] at h1
    injection h1 with h1
    rw [h1]
    exact ⟨h2, (Array.getElem?_eq_some_iff.1 h3).1⟩
theorem OwnEn.keep {n : Nat} {w w' : World} {y : E8} (h : OwnEn n w y) (k : Keep (fun k => n ≤ k) w w') : OwnEn n w' y := by
  have hl := (h.lies.keep (Q := fun _ => True) (k.mono (fun i hi => hi.1)) (fun _ _ => trivial)).vi
  refine ⟨hl, ⟨fun hne => ?_, fun hne => ?_⟩, fun hne => ?_⟩
  · obtain ⟨g, o, cs, h1, h2, h3⟩ := h.wt.items hne
    exact ⟨g, o, cs, h1, h2, (k.block g (Array.getElem?_eq_some_iff.1 h3).1 h2).trans h3⟩
  · obtain ⟨g, o, cs, h1, h2, h3⟩ := h.wt.pairs hne
    exact ⟨g, o, cs, h1, h2, (k.block g (Array.getElem?_eq_some_iff.1 h3).1 h2).trans h3⟩
  · obtain ⟨g, cs, h1, h2, h3, h4⟩ := h.room hne
    exact ⟨g, cs, h1, h2, (k.block g (Array.getElem?_eq_some_iff.1 h3).1 h2).trans h3, h4⟩
theorem OwnEn.mono {n m : Nat} {w : World} {y : E8} (h : OwnEn n w y) (hm : m ≤ n) : OwnEn m w y := by
  refine ⟨h.vi, ⟨fun hne => ?_, fun hne => ?_⟩, fun hne => ?_⟩
  · obtain ⟨g, o, cs, h1, h2, h3⟩ := h.wt.items hne
    exact ⟨g, o, cs, h1, by omega, h3⟩
  · obtain ⟨g, o, cs, h1, h2, h3⟩ := h.wt.pairs hne
    exact ⟨g, o, cs, h1, by omega, h3⟩
  · obtain ⟨g, cs, h1, h2, h3, h4⟩ := h.room hne
    exact ⟨g, cs, h1, by omega, h3, h4⟩
set_option maxHeartbeats 2000000 in
set_option maxRecDepth 100000 in
/-- own -/
theorem kown_any (x : E8) (w : World) (hR : x.m.pairs.length * 32 ≤ 140737488351232 ∧ x.m.items.length * 16 ≤ 140737488351232) (hV : VI w x.m x.pp x.pc x.ip x.ic) :
    Calls Tryz.prog 37 #[ev x] w fun e w' => ∃ y : E8, e = .returned (ev y) ∧ Hid (pr8 y = pr8 x ∧ OwnEn w.heap.size w' y ∧ Below w.heap.size w w') := by
  have HA := hid (al_two w (eob x) (eob Dc.DE.e80))
  obtain ⟨a0, a1, a2, a3, a4, a5, a6, a7⟩ := ent_facts HA.out.2.1
  have HC := hid (pcopy_any x.m x.pp x.pc x.ip x.ic _ hR (hV.below HA.out.1))
  clear hV hR
  go_enter Tryz.func37, Tryz.ntmps37
  go_wp2_with fail
  refine HC.out.mono ?_; rintro e w1 ⟨pp, pc', ip, ic, rfl, hh⟩
  have hs0 := HA.out.2.2.2
  have hs1 := hh.out.2.2.size
  have hx1 := (hh.out.2.2.block w.heap.size (by rw [hs0]; omega)).trans HA.out.2.1
  have hy1 := (hh.out.2.2.block (w.heap.size + 1) (by rw [hs0]; omega)).trans HA.out.2.2.1
  have HE1 : Hid (OwnEn (w.heap.size + 2) w1 ⟨x.key, x.m, pp, pc', ip, ic, x.ends⟩) := by
    have := (⟨hh.out.1, hh.out.2.1.1, hh.out.2.1.2⟩ : OwnEn _ w1 ⟨x.key, x.m, pp, pc', ip, ic, x.ends⟩)
    rw [hs0] at this
    exact this
  have HB1 := hid (HA.out.1.trans (hh.out.2.2.mono HA.out.1.size))
  have HX1 := hid hx1
  have HY1 := hid hy1
  obtain ⟨b0, b1, b2, b3, b4, b5, b6, b7⟩ := ent_facts hx1
  obtain ⟨f0, f1, f2, f3, f4, f5, f6, f7⟩ := ent_frozen hx1
  obtain ⟨r0, r1, r2, r3, r4, r5, r6, r7⟩ := ent_facts hy1
  obtain ⟨g0, g1, g2, g3, g4, g5, g6, g7⟩ := ent_frozen hy1
  clear hh hx1 hy1 a0 a1 a2 a3 a4 a5 a6 a7
  go_wp2_with fail
  have HX2 := hid (set6_ent (.int .i64 x.m.kind) (txt x.m.text) (.slice pp x.m.pairs.length pc') (.slice ip x.m.items.length ic) (.int .i64 x.m.px) (.int .i64 x.m.py) HX1.out)
  have HY2 := hid ((set6_other w1 w.heap.size (w.heap.size + 1) (by omega) (.int .i64 x.m.kind) (txt x.m.text) (.slice pp x.m.pairs.length pc') (.slice ip x.m.items.length ic) (.int .i64 x.m.px) (.int .i64 x.m.py)).trans HY1.out)
  have HO2 := hid (set6_onlyB w1 w.heap.size (.int .i64 x.m.kind) (txt x.m.text) (.slice pp x.m.pairs.length pc') (.slice ip x.m.items.length ic) (.int .i64 x.m.px) (.int .i64 x.m.py))
  refine bodyPost_ret (v := ev ⟨x.key, x.m, pp, pc', ip, ic, x.ends⟩) ?_ rfl ?_
  · exact ret_ent rfl rfl (Dc.DE.set8_same _ _ _ _ _ _ _ _ HY2.out)
  · have HO3 := set8_onlyB ((((((w1.setCell ⟨w.heap.size, 1, none⟩ (.int .i64 x.m.kind)).setCell ⟨w.heap.size, 2, none⟩ (txt x.m.text)).setCell ⟨w.heap.size, 3, none⟩ (.slice pp x.m.pairs.length pc')).setCell ⟨w.heap.size, 4, none⟩ (.slice ip x.m.items.length ic)).setCell ⟨w.heap.size, 5, none⟩ (.int .i64 x.m.px)).setCell ⟨w.heap.size, 6, none⟩ (.int .i64 x.m.py)) (w.heap.size + 1) (txt x.key) (.int .i64 x.m.kind) (txt x.m.text) (.slice pp x.m.pairs.length pc') (.slice ip x.m.items.length ic) (.int .i64 x.m.px) (.int .i64 x.m.py) (.int .i64 x.ends)
    refine ⟨_, rfl, rfl, ?_, ?_⟩
    · exact ((HE1.out.keep (HO2.out.keep (by omega))).keep (HO3.keep (by omega))).mono (by omega)
    · exact HO3.below (HO2.out.below HB1.out (Nat.le_refl _)) (by omega)
set_option maxHeartbeats 1000000 in
set_option maxRecDepth 100000 in
/-- ended -/
theorem kended_any {B : Nat} {w : World} {b d mb : Nat} {O A Od : Nat → Prop} {D : Dc.DM E8} {f : Int → Row} {room mem now soon : Int} (h : SpC B w b d mb O A Od D f room mem now soon) (x : E8) :
    Calls Tryz.prog 33 #[ptr b, ev x] w fun e w' => e = .returned (.bool (decide (0 < x.ends ∧ x.ends ≤ now))) ∧ Hid (Below w.heap.size w w') := by
  have HB := hid (below_alloc w (eob x))
  have h1 := h.below HB.out
  obtain ⟨a0, a1, a2, a3, a4, a5⟩ := h1.facts
  obtain ⟨c0, c1, c2, c3, c4, c5, c6, c7⟩ := ent_facts (ent_new w x)
  clear h h1
  by_cases g1 : 0 < x.ends
  · by_cases g2 : x.ends ≤ now
    · rw [decide_eq_true ⟨g1, g2⟩]
      go_enter Tryz.func33, Tryz.ntmps33
      go_wp2_with fail
      go_region
      all_goals go_wp2_with fail
      all_goals go_ret
      all_goals exact ⟨rfl, HB.out.drew⟩
    · rw [decide_eq_false (fun h => g2 h.2)]
      have hb2 : decide (x.ends ≤ now) = false := decide_eq_false g2
      go_enter Tryz.func33, Tryz.ntmps33
      go_wp2_with fail
      go_region
      all_goals go_wp2_with fail
      all_goals go_ret
      all_goals exact ⟨rfl, HB.out.drew⟩
  · rw [decide_eq_false (fun h => g1 h.1)]
    have hb1 : decide (0 < x.ends) = false := decide_eq_false g1
    go_enter Tryz.func33, Tryz.ntmps33
    go_wp2_with fail
    go_region
    all_goals go_wp2_with fail
    all_goals go_ret
    all_goals exact ⟨rfl, HB.out.drew⟩
set_option maxHeartbeats 1000000 in
set_option maxRecDepth 100000 in
/-- expect -/
theorem kexpect_any {B : Nat} {w : World} {b d mb : Nat} {O A Od : Nat → Prop} {D : Dc.DM E8} {f : Int → Row} {room mem now soon : Int} (h : SpC B w b d mb O A Od D f room mem now soon) (x : E8) :
    Calls Tryz.prog 35 #[ptr b, ev x] w fun e w' => e = .returned (.tuple #[]) ∧ Hid (SpC B w' b d mb O A Od D f room mem now (if 0 < x.ends then min soon x.ends else soon) ∧ Stp w w' O O A A) := by
  have HB := hid (below_alloc w (eob x))
  have h1 := h.below HB.out
  obtain ⟨a0, a1, a2, a3, a4, a5⟩ := h1.facts
  have f3 := h1.frozen 3
  obtain ⟨c0, c1, c2, c3, c4, c5, c6, c7⟩ := ent_facts (ent_new w x)
  have H1 := hid h1
  have H0 := hid h
  have hbl := h.blt.1
  clear h h1
  by_cases g1 : 0 < x.ends
  · rw [if_pos g1]
    have HX := hid (H0.out.setSoon (min soon x.ends))
    have HB2 := hid (below_alloc (w.setCell ⟨b, 3, none⟩ (.int .i64 (min soon x.ends))) (eob x)).drew
    go_enter Tryz.func35, Tryz.ntmps35
    go_wp2_with fail
    go_region
    all_goals go_end0
    all_goals exact ⟨rfl, HX.out.1.below HB2.out, HX.out.2.trans (Stp.below HB2.out O A)⟩
  · rw [if_neg g1]
    go_enter Tryz.func35, Tryz.ntmps35
    go_wp2_with fail
    go_end0
    exact ⟨rfl, H1.out, Stp.below HB.out O A⟩
set_option maxHeartbeats 1000000 in
set_option maxRecDepth 100000 in
theorem know_any {B : Nat} {w : World} {b d mb : Nat} {O A Od : Nat → Prop} {D : Dc.DM E8} {f : Int → Row} {room mem now soon : Int} (h : SpC B w b d mb O A Od D f room mem now soon) :
    Calls Tryz.prog 128 #[ptr b] w fun e w' => e = .returned (.int .i64 now) ∧ Hid (Below w.heap.size w w') := by
  obtain ⟨a0, a1, a2, a3, a4, a5⟩ := h.facts
  clear h
  go_enter Tryz.func128, Tryz.ntmps128
  go_wp2_with fail
  go_ret
  exact ⟨rfl, Below.refl _ _⟩
set_option maxHeartbeats 1000000 in
set_option maxRecDepth 100000 in
theorem klen_any {B : Nat} {w : World} {b d mb : Nat} {O A Od : Nat → Prop} {D : Dc.DM E8} {f : Int → Row} {room mem now soon : Int} (h : SpC B w b d mb O A Od D f room mem now soon) :
    Calls Tryz.prog 23 #[ptr b] w fun e w' => e = .returned (.int .i64 D.L.length) ∧ Hid (Below w.heap.size w w') := by
  obtain ⟨a0, a1, a2, a3, a4, a5⟩ := h.facts
  have HL := hid (Dc.DE.dq_len d Od D w h.dq)
  clear h
  go_enter Tryz.func23, Tryz.ntmps23
  go_wp2_with fail
  refine HL.out.mono ?_; rintro e w1 ⟨rfl, hh⟩
  go_wp2_with fail
  go_ret
  exact ⟨rfl, hh⟩
end Go.Proofs.YtcbncdigejjcpaaGreatDoor
