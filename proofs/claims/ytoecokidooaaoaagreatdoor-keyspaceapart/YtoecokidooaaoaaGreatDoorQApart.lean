/- LawAll, LawApart, KeyspaceApart. -/
import Derived.Test.YtoecokidooaaoaaGreatDoorM43
import Derived.Test.YtoecokidooaaoaaGreatDoorM42
import Derived.Test.YtoecokidooaaoaaGreatDoorCards
import Derived.Test.YtoecokidooaaoaaGreatDoorTie
import Derived.ProofKit
import Derived.OpenShut
import Derived.ShutString
import Derived.ChangeMaps5
import Derived.ChangeOld
import Derived.RowKit
import Derived.Deep.DeepHandedRow
import Derived.SizedLaws
import Derived.Test.YtoecokidooaaoaaGreatDoorM44
namespace Go.Proofs.YtoecokidooaaoaaGreatDoor
open Go.RowKit

theorem Both.below {B : Nat} {w w' : World} {b : Nat} {O A P : Nat → Prop} {L : List EP} {room now : Int} {p : Option Addr} {c n : Nat} (h : Both B w b O A P L room now p c n) (k : Below w.heap.size w w') : Both B w' b O A P L room now p c n := by
  obtain ⟨k1, ⟨R, k2, k3⟩, k4⟩ := h
  exact ⟨k1.below k, ⟨R, k2.below k, k3⟩, k4⟩
set_option maxHeartbeats 4000000 in
set_option maxRecDepth 100000 in
theorem all_any {B : Nat} (hB0 : 0 < B) (w : World) (hT : Tab w) (hB : B ≤ w.heap.size) (room : Int) (p : Option Addr) (ops : List OpK) (cp : Nat) (hG : Given w p ops) :
    Calls Tryz.prog 3 #[.int .i64 room, .slice p ops.length cp] w fun e w' => e = .returned (.bool true) ∧ Hid (Below w.heap.size w w') := by
  have HAl := hid (fun W (h : Below w.heap.size w W) => alive_any hB0 W (hT.env h) (Nat.le_trans hB h.size))
  have hba := below_alloc w (sob none 0 0 0 0)
  cases hf : fewB ops with
  | false =>
    have HM := hid (fun W (h : Below w.heap.size w W) => begun_many hB0 W (hT.env h) (Nat.le_trans hB h.size) room p ops cp (hG.below h) hf)
    clear hT hG hba
    go_enter Tryz.func3, Tryz.ntmps3
    go_wp2_with fail
    refine (HM.out w (Below.refl _ _)).mono ?_; rintro e w1 ⟨rfl, hh⟩
    have HW2 := hid (hh.out.trans ((below_alloc w1 (sob none 0 0 room 0)).mono hh.out.size))
    have HR := hid (heap_alloc_new w1 (sob none 0 0 room 0))
    obtain ⟨r0, r1, r2⟩ := sp_facts HR.out
    clear hh
    go_wp2_with fail
    refine (HAl.out _ HW2.out).mono ?_; rintro e w3 ⟨rfl, hh⟩
    have HW3 := hid (HW2.out.trans (hh.out.mono HW2.out.size))
    clear hh
    go_wp2_with fail
    go_ret
    exact ⟨rfl, HW3.out⟩
  | true =>
    have HM := hid (fun W (h : Below w.heap.size w W) => begun_few hB0 W (hT.env h) (Nat.le_trans hB h.size) room p ops cp (hG.below h) hf)
    clear hT hG hba
    go_enter Tryz.func3, Tryz.ntmps3
    go_wp2_with fail
    refine (HM.out w (Below.refl _ _)).mono ?_; rintro e w1 ⟨b, q, d, rfl, hh⟩
    obtain ⟨O, A, hbo, -, hb1⟩ := hh.out
    generalize runL room ops = s at *
    obtain ⟨L, nw⟩ := s
    dsimp only at *
    have hba := below_alloc w1 (sob q L.length d room nw)
    have HW2 := hid (hb1.trans (hba.mono hb1.size))
    have HB2 := hid (hbo.below hba)
    have HR := hid (heap_alloc_new w1 (sob q L.length d room nw))
    obtain ⟨r0, r1, r2⟩ := sp_facts HR.out
    have hz : w1.heap.size < (w1.alloc (sob q L.length d room nw)).heap.size := by simp
    have HZ := hid hz
    clear hh hbo hb1 hba hz
    go_wp2_with fail
    refine (HAl.out _ HW2.out).mono ?_; rintro e w3 ⟨rfl, hh⟩
    have HW3 := hid (HW2.out.trans (hh.out.mono HW2.out.size))
    have HB3 := hid (HB2.out.below hh.out)
    obtain ⟨s0, s1, s2⟩ := sp_facts ((hh.out.block w1.heap.size HZ.out).trans HR.out)
    clear hh r0 r1 r2
    go_wp2_with fail
    refine (stands_any HB3.out).mono ?_; rintro e w4 ⟨rfl, hh⟩
    have HW4 := hid (HW3.out.trans (hh.out.mono HW3.out.size))
    clear hh
    go_wp2_with fail
    go_ret
    exact ⟨rfl, HW4.out⟩

end Go.Proofs.YtoecokidooaaoaaGreatDoor

namespace Go.Proofs.YtoecokidooaaoaaGreatDoor
open Go.RowKit

/-- two spaces that do not meet -/
structure Two (B : Nat) (w : World) (W : World) (b1 : Nat) (O1 A1 : Nat → Prop) (L1 : List EP) (n1 : Int) (q1 : Option Addr) (d1 : Nat) (b2 : Nat) (O2 A2 : Nat → Prop) (L2 : List EP) (n2 : Int) (q2 : Option Addr) (d2 : Nat) (V : Nat → Prop) : Prop where
  one : Both B W b1 O1 A1 (fun j => ¬ O2 j ∧ ¬ V j) L1 2000 n1 q1 d1 L1.length
  two : Both B W b2 O2 A2 (fun j => ¬ O1 j ∧ ¬ V j) L2 2000 n2 q2 d2 L2.length
  a1 : ∀ k, A1 k → ¬ O2 k ∧ ¬ V k ∧ w.heap.size ≤ k
  a2 : ∀ k, A2 k → ¬ O1 k ∧ ¬ V k ∧ w.heap.size ≤ k
  v : ∀ k, V k → w.heap.size ≤ k ∧ k < W.heap.size
  bel : Below w.heap.size w W
theorem Two.swap {B : Nat} {w W : World} {b1 b2 : Nat} {O1 A1 O2 A2 V : Nat → Prop} {L1 L2 : List EP} {n1 n2 : Int} {q1 q2 : Option Addr} {d1 d2 : Nat} (h : Two B w W b1 O1 A1 L1 n1 q1 d1 b2 O2 A2 L2 n2 q2 d2 V) : Two B w W b2 O2 A2 L2 n2 q2 d2 b1 O1 A1 L1 n1 q1 d1 V := ⟨h.two, h.one, h.a2, h.a1, h.v, h.bel⟩
theorem Two.below {B : Nat} {w W W' : World} {b1 b2 : Nat} {O1 A1 O2 A2 V : Nat → Prop} {L1 L2 : List EP} {n1 n2 : Int} {q1 q2 : Option Addr} {d1 d2 : Nat} (h : Two B w W b1 O1 A1 L1 n1 q1 d1 b2 O2 A2 L2 n2 q2 d2 V) (k : Below W.heap.size W W') : Two B w W' b1 O1 A1 L1 n1 q1 d1 b2 O2 A2 L2 n2 q2 d2 V :=
  ⟨h.one.below k, h.two.below k, h.a1, h.a2, fun j hj => ⟨(h.v j hj).1, Nat.lt_of_lt_of_le (h.v j hj).2 k.size⟩, h.bel.trans (k.mono h.bel.size)⟩
/-- the first one has turned, by a call -/
theorem Two.turn {B : Nat} {w W W' : World} {b1 b2 : Nat} {O1 A1 O2 A2 V O1' A1' : Nat → Prop} {L1 L2 L1' : List EP} {n1 n2 n1' : Int} {q1 q2 q1' : Option Addr} {d1 d2 d1' : Nat} (h : Two B w W b1 O1 A1 L1 n1 q1 d1 b2 O2 A2 L2 n2 q2 d2 V) (h1 : Both B W' b1 O1' A1' (fun j => ¬ O2 j ∧ ¬ V j) L1' 2000 n1' q1' d1' L1'.length) (hst : Stp W W' O1 O1' A1 A1') : Two B w W' b1 O1' A1' L1' n1' q1' d1' b2 O2 A2 L2 n2 q2 d2 V := by
  have hlt2 : ∀ k, O2 k → k < W.heap.size := fun k hk => (h.two.sp.lt k (h.two.sp.sub k hk)).2
  refine ⟨h1, ?_, fun k hk => ?_, fun k hk => ⟨fun ho => ?_, (h.a2 k hk).2⟩, fun k hk => ⟨(h.v k hk).1, Nat.lt_of_lt_of_le (h.v k hk).2 hst.keep.size⟩, ?_⟩
  · obtain ⟨hsp, ⟨R, hR, hm⟩, hl⟩ := h.two
    refine ⟨hsp.turn (hst.keep.mono (fun k hk ho => ?_)), ⟨R, hR.keepB (Q := fun j => ¬ O2 j ∧ (¬ O1' j ∧ ¬ V j)) (hst.keep.mono (fun k hk => hk.2.1)) (fun i hi hp => ⟨hp.1, fun ho => ?_, hp.2.2⟩), hm⟩, hl⟩
    · rcases hk with hk | hk
      · have := (h.one.sp.lt k (h.one.sp.sub k ho)).1; omega
      · exact (h.a2 k hk).1 ho
    · rcases hst.o i ho with h' | h'
      · exact hp.2.1 h'
      · omega
  · rcases hst.a k hk with h' | h'
    · exact h.a1 k h'
    · refine ⟨fun ho => by have := hlt2 k ho; omega, fun hv => by have := (h.v k hv).2; omega, Nat.le_trans h.bel.size h'⟩
  · rcases hst.o k ho with h' | h'
    · exact (h.a2 k hk).1 h'
    · have := (h.two.sp.lt k hk).2; omega
  · exact ⟨hst.keep.os.trans h.bel.os, hst.keep.tape.trans h.bel.tape, hst.keep.output.trans h.bel.output, Nat.le_trans h.bel.size hst.keep.size, fun k hk => (hst.keep.block k (Nat.lt_of_lt_of_le hk h.bel.size) (fun ho => by have := (h.a1 k (h.one.sp.sub k ho)).2.2; omega)).trans (h.bel.block k hk)⟩
/-- a block of the law's own has turned -/
theorem Two.set {B : Nat} {w W W' : World} {b1 b2 : Nat} {O1 A1 O2 A2 V : Nat → Prop} {L1 L2 : List EP} {n1 n2 : Int} {q1 q2 : Option Addr} {d1 d2 : Nat} (h : Two B w W b1 O1 A1 L1 n1 q1 d1 b2 O2 A2 L2 n2 q2 d2 V) {v : Nat} (hv : V v) (hB : B ≤ w.heap.size) (k : OnlyB v W W') : Two B w W' b1 O1 A1 L1 n1 q1 d1 b2 O2 A2 L2 n2 q2 d2 V := by
  have hb := (h.v v hv).1
  have each : ∀ {b : Nat} {O A P : Nat → Prop} {L : List EP} {n : Int} {q : Option Addr} {d : Nat}, Both B W b O A (fun j => P j ∧ ¬ V j) L 2000 n q d L.length → (∀ k, A k → ¬ V k) → Both B W' b O A (fun j => P j ∧ ¬ V j) L 2000 n q d L.length := fun {b O A P L n q d} hbo ha => by
    obtain ⟨hsp, ⟨R, hR, hm⟩, hl⟩ := hbo
    refine ⟨hsp.turn (k.keep (P := fun k => k < B ∨ A k) (fun hk => ?_)), ⟨R, hR.keepB (Q := fun j => ¬ O j ∧ (P j ∧ ¬ V j)) (k.keep (fun hk => hk.2.2 hv)) (fun _ _ hp => hp), hm⟩, hl⟩
    rcases hk with hk | hk
    · omega
    · exact ha v hk hv
  exact ⟨each h.one (fun k hk => (h.a1 k hk).2.1), each h.two (fun k hk => (h.a2 k hk).2.1), h.a1, h.a2, fun j hj => ⟨(h.v j hj).1, by rw [k.size]; exact (h.v j hj).2⟩, ⟨k.os.trans h.bel.os, k.tape.trans h.bel.tape, k.output.trans h.bel.output, Nat.le_trans h.bel.size (Nat.le_of_eq k.size.symm), fun j hj => (k.block j (by omega)).trans (h.bel.block j hj)⟩⟩
theorem Two.does {B : Nat} {w W : World} {b1 b2 : Nat} {O1 A1 O2 A2 V : Nat → Prop} {L1 L2 : List EP} {n1 n2 : Int} {q1 q2 : Option Addr} {d1 d2 : Nat} (h : Two B w W b1 O1 A1 L1 n1 q1 d1 b2 O2 A2 L2 n2 q2 d2 V) (o : OpK) (ha : Arg8 o.e) (h1 : o.e.m.pairs.length ≤ 300) (h2 : o.e.m.items.length ≤ 300) (hl : Lies (fun j => j < w.heap.size) w o.e) : DoIs B W b1 O1 A1 (fun j => ¬ O2 j ∧ ¬ V j) L1 2000 n1 q1 d1 o :=
  does_any h.one (fun j hj => ⟨fun ho => by have := (h.two.sp.lt j (h.two.sp.sub j ho)).2; omega, fun hv => by have := (h.v j hv).2; omega⟩) o ha (ok_small ha h1 h2) (hl.keepB (Keep.of_below h.bel) (fun i hi _ => ⟨fun ho => by have := (h.a1 i (h.one.sp.sub i ho)).2.2; omega, fun ho => by have := (h.a2 i (h.two.sp.sub i ho)).2.2; omega, fun hv => by have := (h.v i hv).1; omega⟩))
/-- a law's own block is not the first space's -/
theorem Two.own {B : Nat} {w W W' : World} {b1 b2 : Nat} {O1 A1 O2 A2 V O1' A1' : Nat → Prop} {L1 L2 : List EP} {n1 n2 : Int} {q1 q2 : Option Addr} {d1 d2 : Nat} (h : Two B w W b1 O1 A1 L1 n1 q1 d1 b2 O2 A2 L2 n2 q2 d2 V) (hst : Stp W W' O1 O1' A1 A1') {v : Nat} (hv : V v) : W'.heap[v]? = W.heap[v]? :=
  hst.keep.block v (h.v v hv).2 (fun ho => (h.a1 v (h.one.sp.sub v ho)).2.1 hv)
theorem Two.step {B : Nat} {w W w5 : World} {b1 b2 : Nat} {O1 A1 O2 A2 V O1' A1' : Nat → Prop} {L1 L2 L1' : List EP} {n1 n2 n1' : Int} {q1 q2 q1' : Option Addr} {d1 d2 d1' : Nat} (h : Two B w W b1 O1 A1 L1 n1 q1 d1 b2 O2 A2 L2 n2 q2 d2 V) (hB : B ≤ w.heap.size) {v u : Nat} (hv : V v) (hu : V u) (huv : u ≠ v) {x y z : Value} {o : Obj} (hr : W.heap[v]? = some (.cells #[x, y, z] 26 (0, 0))) (hru : W.heap[u]? = some o) (h1 : Both B w5 b1 O1' A1' (fun j => ¬ O2 j ∧ ¬ V j) L1' 2000 n1' q1' d1' L1'.length) (hst : Stp W w5 O1 O1' A1 A1') :
    ∃ W6, W6 = (((w5.setCell ⟨v, 0, none⟩ (.slice q1' L1'.length d1')).setCell ⟨v, 1, none⟩ (.int .i64 2000)).setCell ⟨v, 2, none⟩ (.int .i64 n1')).alloc (sob q1' L1'.length d1' 2000 n1') ∧ Hid (W6.heap[v]? = some (.cells #[.slice q1' L1'.length d1', .int .i64 2000, .int .i64 n1'] 26 (0, 0))) ∧ Hid (W6.heap[u]? = some o) ∧ Hid (Two B w W6 b1 O1' A1' L1' n1' q1' d1' b2 O2 A2 L2 n2 q2 d2 V) := by
  have h5 := h.turn h1 hst
  have hr5 := (h.own hst hv).trans hr
  have hu5 := (h.own hst hu).trans hru
  have hoB := set3_onlyB w5 v (.slice q1' L1'.length d1') (.int .i64 2000) (.int .i64 n1')
  have hr6 := set3_rs (.slice q1' L1'.length d1') (.int .i64 2000) (.int .i64 n1') hr5
  have h6 := h5.set hv hB hoB
  have hba := below_alloc (((w5.setCell ⟨v, 0, none⟩ (.slice q1' L1'.length d1')).setCell ⟨v, 1, none⟩ (.int .i64 2000)).setCell ⟨v, 2, none⟩ (.int .i64 n1')) (sob q1' L1'.length d1' 2000 n1')
  exact ⟨_, rfl, (hba.block v (h6.v v hv).2).trans hr6, (hba.block u (h6.v u hu).2).trans ((hoB.block u huv).trans hu5), h6.below hba⟩
set_option maxHeartbeats 8000000 in
set_option maxRecDepth 100000 in
theorem apart_any {B : Nat} (hB0 : 0 < B) (w : World) (hT : Tab w) (hB : B ≤ w.heap.size) (p : Option Addr) (ops : List OpK) (cp : Nat) (p2 : Option Addr) (ops2 : List OpK) (cp2 : Nat) (hG : Given w p ops) (hG2 : Given w p2 ops2) :
    Calls Tryz.prog 6 #[.slice p ops.length cp, .slice p2 ops2.length cp2] w fun e w' => e = .returned (.bool true) ∧ Hid (Below w.heap.size w w') := by
  have HAl := hid (fun W (h : Below w.heap.size w W) => alive_any hB0 W (hT.env h) (Nat.le_trans hB h.size))
  cases hf : fewB ops with
  | false =>
    have HM := hid (begun_many hB0 w hT hB 2000 p ops cp hG hf)
    clear hT hG hf hG2
    go_enter Tryz.func6, Tryz.ntmps6
    go_wp2_with fail
    refine HM.out.mono ?_; rintro e w1 ⟨rfl, hh⟩
    have HW2 := hid (hh.out.trans ((below_alloc w1 (sob none 0 0 2000 0)).mono hh.out.size))
    have HR := hid (heap_alloc_new w1 (sob none 0 0 2000 0))
    obtain ⟨r0, r1, r2⟩ := sp_facts HR.out
    clear hh
    go_wp2_with fail
    refine (HAl.out _ HW2.out).mono ?_; rintro e w3 ⟨rfl, hh⟩
    have HW3 := hid (HW2.out.trans (hh.out.mono HW2.out.size))
    clear hh
    go_wp2_with fail
    go_ret
    exact ⟨rfl, HW3.out⟩
  | true =>
    have HM := hid (begun_few hB0 w hT hB 2000 p ops cp hG hf)
    have HF2 := hid (fun W (hb : Below w.heap.size w W) => few_any p2 ops2 cp2 W (hG2.at_.below hb) (fun o ho => ⟨(hG2.arg o ho).came.pairs, (hG2.arg o ho).came.items⟩) hG2.len)
    cases hf2 : fewB ops2 with
    | false =>
      rw [hf2] at HF2
      clear hT hG hf hG2 hf2
      go_enter Tryz.func6, Tryz.ntmps6
      go_wp2_with fail
      refine HM.out.mono ?_; rintro e w1 ⟨b, q, d, rfl, hh⟩
      obtain ⟨O, A, hbo, hA, hb1⟩ := hh.out
      generalize runL 2000 ops = s at *
      obtain ⟨L, nw⟩ := s
      dsimp only at *
      have hba := below_alloc w1 (sob q L.length d 2000 nw)
      have HW2 := hid (hb1.trans (hba.mono hb1.size))
      have HR := hid (heap_alloc_new w1 (sob q L.length d 2000 nw))
      obtain ⟨r0, r1, r2⟩ := sp_facts HR.out
      clear hh hbo hb1 hba hA
      go_wp2_with fail
      refine (HF2.out _ HW2.out).mono ?_; rintro e w3 ⟨rfl, hh⟩
      have HW3 := hid (HW2.out.trans (hh.out.mono HW2.out.size))
      clear hh
      go_wp2_with fail
      refine (HAl.out _ HW3.out).mono ?_; rintro e w4 ⟨rfl, hh⟩
      have HW4 := hid (HW3.out.trans (hh.out.mono HW3.out.size))
      clear hh
      go_wp2_with fail
      go_ret
      exact ⟨rfl, HW4.out⟩
    | true =>
      rw [hf2] at HF2
      have HG2 := hid hG2
      have HFw := hid (few_of hf2)
      have hol := (few_of hf2).1
      have holz : (ops2.length : Int) ≤ 200 := by omega
      clear hT hG hf hG2 hf2
      go_enter Tryz.func6, Tryz.ntmps6
      go_wp2_with fail
      refine HM.out.mono ?_; rintro e w1 ⟨b, q, d, rfl, hh⟩
      obtain ⟨O, A, hbo, hA, hb1⟩ := hh.out
      generalize runL 2000 ops = s at *
      obtain ⟨L, nw⟩ := s
      dsimp only at *
      have hba := below_alloc w1 (sob q L.length d 2000 nw)
      have HW2 := hid (hb1.trans (hba.mono hb1.size))
      have HB2 := hid (hbo.below hba)
      have HA2 := hid hA
      have HL1 := hid (fun k hk => (hbo.sp.lt k hk).2)
      obtain ⟨R, hR, hm⟩ := hbo.doc
      have HRR : Hid (Rde (fun j => ¬ O j ∧ j < w1.heap.size) (w1.alloc (sob q L.length d 2000 nw)) q d R) := (hR.keepB (Keep.refl _ _) (fun i hi hp => ⟨hp.1, hi⟩)).below hba
      have HMM := hid hm
      have HWl := hid hb1.size
      have HR := hid (heap_alloc_new w1 (sob q L.length d 2000 nw))
      have HZ : Hid (w1.heap.size < (w1.alloc (sob q L.length d 2000 nw)).heap.size) := by simp [Hid]
      obtain ⟨r0, r1, r2⟩ := sp_facts HR.out
      clear hh hbo hb1 hba hA hR hm
      go_wp2_with fail
      refine (HF2.out _ HW2.out).mono ?_; rintro e w3 ⟨rfl, hh⟩
      have HRR3 := hid (HRR.out.below hh.out)
      have HZ3 : Hid (w1.heap.size < w3.heap.size) := Nat.lt_of_lt_of_le HZ.out hh.out.size
      have HW3 := hid (HW2.out.trans (hh.out.mono HW2.out.size))
      have HB3 := hid (HB2.out.below hh.out)
      have HR3 := hid ((hh.out.block w1.heap.size HZ.out).trans HR.out)
      obtain ⟨s0, s1, s2⟩ := sp_facts HR3.out
      clear hh r0 r1 r2
      go_wp2_with fail
      refine (sp_clone HB3.out.sp).mono ?_; rintro e w4 ⟨c, rfl, hh⟩
      obtain ⟨Oc, Ac, hSc, hOc, hAg, hAo, hb4⟩ := hh.out
      have hba := below_alloc w4 (sob q L.length d 2000 nw)
      have hz3 := HZ3.out
      have hz4 := hb4.size
      have HTw : Hid (Two B w (w4.alloc (sob q L.length d 2000 nw)) c Oc Ac L nw q d b O A L nw q d (fun k => k = w1.heap.size ∨ k = w4.heap.size)) := by
        have hA' : ∀ k, Ac k → k ≠ w1.heap.size ∧ k ≠ w4.heap.size ∧ w.heap.size ≤ k := fun k hk => by
          have h1 := (hSc.lt k hk).2
          have h3 := HW3.out.size
          rcases hAg k hk with h | h
          · have := HL1.out k h; have := (HA2.out k h).1; exact ⟨by omega, by omega, by omega⟩
          · exact ⟨by omega, by omega, by omega⟩
        have hOA : ∀ k, O k → k < w1.heap.size := fun k hk => HL1.out k (HB3.out.sp.sub k hk)
        refine ⟨⟨hSc.below hba, ⟨R, ((HRR3.out.below hb4).keepB (Q := fun j => ¬ Oc j ∧ ¬ O j ∧ ¬ (j = w1.heap.size ∨ j = w4.heap.size)) (Keep.refl _ _) (fun i hi hp => ⟨fun ho => ?_, hp.1, ?_⟩)).below hba, HMM.out⟩, rfl⟩, ⟨(HB3.out.sp.below hb4).below hba, ⟨R, ((HRR3.out.below hb4).keepB (Q := fun j => ¬ O j ∧ ¬ Oc j ∧ ¬ (j = w1.heap.size ∨ j = w4.heap.size)) (Keep.refl _ _) (fun i hi hp => ⟨hp.1, fun ho => ?_, ?_⟩)).below hba, HMM.out⟩, rfl⟩, fun k hk => ⟨hAo k hk, ?_, (hA' k hk).2.2⟩, fun k hk => ⟨fun ho => ?_, ?_, (HA2.out k hk).1⟩, fun k hk => ?_, (HW3.out.trans (hb4.mono HW3.out.size)).trans (hba.mono (Nat.le_trans HW3.out.size hb4.size))⟩
        · have := hOc i ho; have := hp.2; omega
        · have := hp.2; omega
        · have := hOc i ho; have := hp.2; omega
        · have := hp.2; omega
        · have := hA' k hk; omega
        · have := hOc k ho; have := HL1.out k hk; omega
        · have := HL1.out k hk; omega
        · have := HWl.out
          have : (w4.alloc (sob q L.length d 2000 nw)).heap.size = w4.heap.size + 1 := by simp
          omega
      have HR4 := hid ((hba.block w1.heap.size (by omega)).trans ((hb4.block w1.heap.size hz3).trans HR3.out))
      have HQ4 := hid (heap_alloc_new w4 (sob q L.length d 2000 nw))
      obtain ⟨t0, t1, t2⟩ := sp_facts ((hb4.block w1.heap.size hz3).trans HR3.out)
      have hne : w1.heap.size < w4.heap.size := by omega
      have hww1 : w.heap.size ≤ w1.heap.size := HWl.out
      clear hh hSc hOc hAg hAo hb4 hba s0 s1 s2 hz3 hz4
      go_wp2_with fail
      go_loopw [47] (fun v47 W => ∃ (i : Nat) (L1 : List EP) (n1 : Int) (q1 : Option Addr) (d1 : Nat), v47 = .int .i64 i ∧ i ≤ ops2.length ∧ Hid (W.heap[w4.heap.size]? = some (.cells #[.slice q1 L1.length d1, .int .i64 2000, .int .i64 n1] 26 (0, 0))) ∧ Hid (W.heap[w1.heap.size]? = some (.cells #[.slice q L.length d, .int .i64 2000, .int .i64 nw] 26 (0, 0))) ∧ Hid (∃ O1 A1, Two B w W c O1 A1 L1 n1 q1 d1 b O A L nw q d (fun k => k = w1.heap.size ∨ k = w4.heap.size))) (fun v47 _ => ops2.length - (intOf v47).toNat)
      case atStart => exact ⟨0, L, nw, q, d, rfl, Nat.zero_le _, HQ4.out, HR4.out, Oc, Ac, HTw.out⟩
      case round =>
        obtain ⟨i, L1, n1, q1, d1, rfl, hi, HQr, HRr, HTr⟩ := hrel
        by_cases hlt : i < ops2.length
        · have hiz : (i : Int) < (ops2.length : Int) := by omega
          obtain ⟨O1, A1, hTr⟩ := HTr.out
          obtain ⟨g, o, rfl, hgl, x0, x1, x2, x3, x4, x5, x6, x7, x8, x9⟩ := ((HG2.out.at_).below hTr.bel).facts i hlt
          have harg := HG2.out.arg ops2[i] (List.getElem_mem _)
          have hfw := HFw.out.2 ops2[i] (List.getElem_mem _)
          have hly := HG2.out.lies ops2[i] (List.getElem_mem _)
          generalize ops2[i] = op at *
          have hba := below_alloc wr (.cells op.cells 52)
          have hTa := hTr.below hba
          have hvv := hTr.v w4.heap.size (.inr rfl)
          have hvu := hTr.v w1.heap.size (.inl rfl)
          have HD := hid (hTa.does op harg hfw.1 hfw.2 hly)
          have HTa := hid hTa
          have HQa := hid ((hba.block w4.heap.size hvv.2).trans HQr.out)
          have HRa := hid ((hba.block w1.heap.size hvu.2).trans HRr.out)
          have hw4r : w4.heap.size < wr.heap.size := hvv.2
          obtain ⟨r0, r1, r2⟩ := sp_facts HQr.out
          obtain ⟨u0, u1, u2, u3, u4, u5, u6, u7, u8, u9⟩ := op_facts (heap_alloc_new wr (.cells op.cells 52))
          clear harg hfw hly hba hTa hTr hvv hvu HTr
          go_wp2_with fail
          refine HD.out.mono ?_; rintro e w5 ⟨q', d', rfl, hh⟩
          obtain ⟨O', A', hbo', hst'⟩ := hh.out
          generalize hL' : doL L1 2000 n1 op = L' at *
          generalize hN' : doN n1 op = nw' at *
          have hq5 := (HTa.out.own hst' (v := w4.heap.size) (.inr rfl)).trans HQa.out
          obtain ⟨f0, f1, f2⟩ := sp_frozen hq5
          obtain ⟨s0, s1, s2⟩ := sp_facts hq5
          have hw5 : w4.heap.size < w5.heap.size := (Array.getElem?_eq_some_iff.1 hq5).1
          obtain ⟨y0, y1, y2⟩ := sp_facts (heap_alloc_new w5 (sob q' L'.length d' 2000 nw'))
          have HE := hid (HTa.out.step hB (v := w4.heap.size) (u := w1.heap.size) (.inr rfl) (.inl rfl) (by omega) HQa.out HRa.out hbo' hst')
          clear hh hbo' hst' hq5 r0 r1 r2 u0 u1 u2 u3 u4 u5 u6 u7 u8 u9 x0 x1 x2 x3 x4 x5 x6 x7 x8 x9
          go_wp2_with fail
          obtain ⟨W6, eW, HQf, HRf, HTf⟩ := HE.out
          rw [← eW]
          exact ⟨⟨i + 1, L', nw', q', d', by go_num, by omega, HQf, HRf, O', A', HTf.out⟩, by simp [intOf]; omega⟩
        · obtain rfl : i = ops2.length := by omega
          obtain ⟨O1, A1, hTr⟩ := HTr.out
          have HTr := hid hTr
          obtain ⟨r0, r1, r2⟩ := sp_facts HRr.out
          have HStd := hid (stands_any hTr.two)
          have HVv := hid hTr.v
          clear hTr t0 t1 t2
          go_wp2_with fail
          refine HStd.out.mono ?_; rintro e w6 ⟨rfl, hh⟩
          have HT6 := hid (HTr.out.below hh.out)
          have HQ6 := hid ((hh.out.block w4.heap.size (HVv.out _ (.inr rfl)).2).trans HQr.out)
          have HR6 := hid ((hh.out.block w1.heap.size (HVv.out _ (.inl rfl)).2).trans HRr.out)
          clear hh r0 r1 r2
          go_wp2_with fail
          go_loopw [67] (fun v67 W => ∃ (i : Nat) (L2 : List EP) (n2 : Int) (q2 : Option Addr) (d2 : Nat), v67 = .int .i64 i ∧ i ≤ ops2.length ∧ Hid (W.heap[w1.heap.size]? = some (.cells #[.slice q2 L2.length d2, .int .i64 2000, .int .i64 n2] 26 (0, 0))) ∧ Hid (W.heap[w4.heap.size]? = some (.cells #[.slice q1 L1.length d1, .int .i64 2000, .int .i64 n1] 26 (0, 0))) ∧ Hid (∃ O2 A2, Two B w W b O2 A2 L2 n2 q2 d2 c O1 A1 L1 n1 q1 d1 (fun k => k = w1.heap.size ∨ k = w4.heap.size))) (fun v67 _ => ops2.length - (intOf v67).toNat)
          case atStart => exact ⟨0, L, nw, q, d, rfl, Nat.zero_le _, HR6.out, HQ6.out, O, A, HT6.out.swap⟩
          case round =>
            obtain ⟨i, L2, n2, q2, d2, rfl, hi, HRs, HQs, HTs⟩ := hrel
            by_cases hlt : i < ops2.length
            · have hiz : (i : Int) < (ops2.length : Int) := by omega
              obtain ⟨O2, A2, hTs⟩ := HTs.out
              obtain ⟨g, o, rfl, hgl, x0, x1, x2, x3, x4, x5, x6, x7, x8, x9⟩ := ((HG2.out.at_).below hTs.bel).facts i hlt
              have harg := HG2.out.arg ops2[i] (List.getElem_mem _)
              have hfw := HFw.out.2 ops2[i] (List.getElem_mem _)
              have hly := HG2.out.lies ops2[i] (List.getElem_mem _)
              generalize ops2[i] = op at *
              have hba := below_alloc wr (.cells op.cells 52)
              have hTa := hTs.below hba
              have hvv := hTs.v w1.heap.size (.inl rfl)
              have hvu := hTs.v w4.heap.size (.inr rfl)
              have HD := hid (hTa.does op harg hfw.1 hfw.2 hly)
              have HTa := hid hTa
              have HRa := hid ((hba.block w1.heap.size hvv.2).trans HRs.out)
              have HQa := hid ((hba.block w4.heap.size hvu.2).trans HQs.out)
              have hw4r : w1.heap.size < wr.heap.size := hvv.2
              obtain ⟨r0, r1, r2⟩ := sp_facts HRs.out
              obtain ⟨u0, u1, u2, u3, u4, u5, u6, u7, u8, u9⟩ := op_facts (heap_alloc_new wr (.cells op.cells 52))
              clear harg hfw hly hba hTa hTs hvv hvu HTs
              go_wp2_with fail
              refine HD.out.mono ?_; rintro e w7 ⟨q', d', rfl, hh⟩
              obtain ⟨O', A', hbo', hst'⟩ := hh.out
              generalize hL' : doL L2 2000 n2 op = L' at *
              generalize hN' : doN n2 op = nw' at *
              have hq5 := (HTa.out.own hst' (v := w1.heap.size) (.inl rfl)).trans HRa.out
              obtain ⟨f0, f1, f2⟩ := sp_frozen hq5
              obtain ⟨s0, s1, s2⟩ := sp_facts hq5
              have hw5 : w1.heap.size < w7.heap.size := (Array.getElem?_eq_some_iff.1 hq5).1
              obtain ⟨y0, y1, y2⟩ := sp_facts (heap_alloc_new w7 (sob q' L'.length d' 2000 nw'))
              have HE := hid (HTa.out.step hB (v := w1.heap.size) (u := w4.heap.size) (.inl rfl) (.inr rfl) (by omega) HRa.out HQa.out hbo' hst')
              clear hh hbo' hst' hq5 r0 r1 r2 u0 u1 u2 u3 u4 u5 u6 u7 u8 u9 x0 x1 x2 x3 x4 x5 x6 x7 x8 x9
              go_wp2_with fail
              obtain ⟨W6, eW, HRf, HQf, HTf⟩ := HE.out
              rw [← eW]
              exact ⟨⟨i + 1, L', nw', q', d', by go_num, by omega, HRf, HQf, O', A', HTf.out⟩, by simp [intOf]; omega⟩
            · obtain rfl : i = ops2.length := by omega
              obtain ⟨O2, A2, hTs⟩ := HTs.out
              have HTs := hid hTs
              have HVs := hid hTs.v
              obtain ⟨r0, r1, r2⟩ := sp_facts HRs.out
              obtain ⟨v0, v1, v2⟩ := sp_facts HQs.out
              have HWs := hid hTs.bel
              clear hTs
              go_wp2_with fail
              refine (HAl.out _ HWs.out).mono ?_; rintro e w8 ⟨rfl, hh⟩
              have HT8 := hid (HTs.out.below hh.out)
              have HR8 := hid ((hh.out.block w1.heap.size (HVs.out _ (.inl rfl)).2).trans HRs.out)
              have HQ8 := hid ((hh.out.block w4.heap.size (HVs.out _ (.inr rfl)).2).trans HQs.out)
              clear hh r0 r1 r2 v0 v1 v2
              obtain ⟨r0, r1, r2⟩ := sp_facts HR8.out
              obtain ⟨v0, v1, v2⟩ := sp_facts HQ8.out
              go_wp2_with fail
              refine (stands_any HT8.out.two).mono ?_; rintro e w9 ⟨rfl, hh⟩
              have HT9 := hid (HT8.out.below hh.out)
              have HR9 := hid ((hh.out.block w1.heap.size (HT8.out.v _ (.inl rfl)).2).trans HR8.out)
              clear hh r0 r1 r2 v0 v1 v2
              obtain ⟨r0, r1, r2⟩ := sp_facts HR9.out
              go_wp2_with fail
              refine (stands_any HT9.out.one).mono ?_; rintro e w10 ⟨rfl, hh⟩
              have HWf := hid (HT9.out.below hh.out).bel
              clear hh
              go_wp2_with fail
              go_ret
              exact ⟨rfl, HWf.out⟩

end Go.Proofs.YtoecokidooaaoaaGreatDoor

namespace Go.Proofs.YtoecokidooaaoaaGreatDoor.keyspaceApart
open Go.ChangeShapes Go.WideShapes Go.ChangeAt Go.RowKit
open Go.ChangeMaps (open_string shut_string)


theorem own : ownKnob Tryz.prog.godebug = none := by kernel_rfl
theorem laidOut : laidOutB Tryz.prog = true := by kernel_rfl
set_option maxRecDepth 100000 in
theorem contract (H : Type) (enc : TypeId × Value → H) (W : World) (base : Nat) (args : Array Value) (ds gs : List (DataW H)) (before : List MemPlace)
    (hval : ∀ (j : Nat) t v, Tryz.f6.params[j]? = some t → args[j]? = some v → Value.okWide Tryz.prog W .any base t v)
    (hW : DataW.Whole enc Tryz.prog Tryz.f6.params.toList Rows.keyspaceApartSpec.vars false W args.toList ds gs before) (hsz0 : (DataW.weightsEach Tryz.prog (Tryz.f6.params.toList ++ Rows.keyspaceApartSpec.plain.varTypes Tryz.prog) (ds ++ gs)).all (· ≤ reachBytes) = true) (hL : laidMetH Tryz.prog listed W) :
    Calls Tryz.prog 6 args W fun e W' => ∃ v, e = .returned v ∧ Rows.keyspaceApartSpec.post enc Tryz.prog Tryz.f6 false true false false W args v W' := by
  have hW' := hW
  obtain ⟨p, q, hA0, hV, rfl, hfz, hnd⟩ := hW
  have hA : DataW.TrodAll enc Tryz.prog W 0 (fun _ => true) true Tryz.f6.params.toList args.toList ds p := hA0
  have hsz : (DataW.weightsEach Tryz.prog (Tryz.f6.params.toList ++ Rows.keyspaceApartSpec.plain.varTypes Tryz.prog) (ds ++ gs)).all (· ≤ reachBytes) = true := hsz0
  clear hsz0
  rw [Tryz.params6] at hA hval hsz
  obtain ⟨v0, vs0, d0, ds0, p0, q0, hargs, rfl, rfl, h0, r0⟩ := trodAll_cons hA
  obtain ⟨v1, vs1, d1, ds1, p1, q1, rfl, rfl, rfl, h1, r1⟩ := trodAll_cons r0
  obtain ⟨rfl, rfl, rfl⟩ := trodAll_nil r1
  obtain rfl : args = #[v0, v1] := by cases args; simp_all
  obtain ⟨rfl, rfl⟩ := trodVars_none hV
  obtain ⟨a0, len0, cap0, rfl⟩ := okWide_slice Tryz.underlying22 (hval 0 22 v0 rfl rfl)
  have k0 := h0
  have lt0 : ∀ x ∈ p0, x.block < W.heap.size := by obtain ⟨m, hm⟩ := k0; exact DataW.trod_lt m _ _ _ hm
  obtain ⟨l0, hl0, hs0⟩ : ∃ l : List OpK, l.length = len0 ∧ Given W a0 l := by
    obtain ⟨m, hm⟩ := h0
    exact open_ops hm (fun n hn => by
      have h : decide (n ≤ reachBytes) = true := List.all_eq_true.1 hsz _ (DataW.weights_mem_each (j := 0) (t := 22) (d := d0) rfl rfl _ hn)
      have h' := of_decide_eq_true h
      simpa [reachBytes] using h')
  subst hl0
  obtain ⟨a1, len1, cap1, rfl⟩ := okWide_slice Tryz.underlying22 (hval 1 22 v1 rfl rfl)
  have k1 := h1
  have lt1 : ∀ x ∈ p1, x.block < W.heap.size := by obtain ⟨m, hm⟩ := k1; exact DataW.trod_lt m _ _ _ hm
  obtain ⟨l1, hl1, hs1⟩ : ∃ l : List OpK, l.length = len1 ∧ Given W a1 l := by
    obtain ⟨m, hm⟩ := h1
    exact open_ops hm (fun n hn => by
      have h : decide (n ≤ reachBytes) = true := List.all_eq_true.1 hsz _ (DataW.weights_mem_each (j := 1) (t := 22) (d := d1) rfl rfl _ hn)
      have h' := of_decide_eq_true h
      simpa [reachBytes] using h')
  subst hl1
  clear hA0
  have hT := env_of hL
  refine (apart_any (tab_lt hT) W hT (Nat.le_refl _) a0 l0 cap0 a1 l1 cap1  hs0 hs1).mono fun e W' ⟨he, bel⟩ => ?_
  subst he
  exact ⟨_, rfl, _, _, _, [], _, [], hW', trodAll_mk1 (shut_bool Tryz.underlying4 _), (trodAll_cons_mk (Below.trod laidOut (by kernel_rfl) (of_decide_eq_true (by kernel_rfl)) k0 bel lt0) (trodAll_cons_mk (Below.trod laidOut (by kernel_rfl) (of_decide_eq_true (by kernel_rfl)) k1 bel lt1) trodAll_mk0)), rfl, bel.frame _, fun h => by cases h⟩
theorem reads (os : Os) {H : Type} (enc : TypeId × Value → H) : ∃ places, DataW.whole enc Tryz.prog ((laidWorld Tryz.prog os).forCall (fun _ _ => 0) ⟨#[], #[.slice none 0 0, .slice none 0 0], []⟩).memory Tryz.f6.params.toList Rows.keyspaceApartSpec.vars false (#[.slice none 0 0, .slice none 0 0] : Array Value).toList 8 = some ([.nil, .nil], [], places) :=
  ⟨[], by kernel_rfl⟩

set_option maxRecDepth 100000 in
theorem lifted (os : Os) (started : os.Started) (H : Type) (enc : TypeId × Value → H) (F : Stop.Interp) :
    ReturnsInHanded {} Tryz.checked os 6 .any ((OpenSpec.ofChange Rows.keyspaceApartSpec).preRow enc Tryz.prog Tryz.f6 Rows.keyspaceApartRow.domain false Rows.keyspaceApartRow.laid) (((OpenSpec.ofChange Rows.keyspaceApartSpec).at F).post enc Tryz.prog Tryz.f6 false true false false) := by
  obtain ⟨places, hx⟩ := reads os enc
  refine returnsInHanded_of_row (C := Tryz.checked) (s := OpenSpec.ofChange Rows.keyspaceApartSpec) own started (by kernel_rfl) Tryz.func6
    (witness_row_at (enc := enc) (C := Tryz.checked) false (laidWorld Tryz.prog os) #[.slice none 0 0, .slice none 0 0] rfl (by kernel_rfl) (by kernel_rfl) (by kernel_rfl)
      (OpenSpec.preRow_of_cond 8 hx (by kernel_rfl) (fun k hk => by cases hk) (by kernel_rfl) (laid_met os _))) ?_
  intro W base args ds gs before hval hW _ hcond hsz hL _ _
  exact contract H enc W base args ds gs before hval hW hsz hL

theorem said : Rows.KeyspaceApartSaid :=
  OpenClaim.holds_of_cond 6 Tryz.f6 rfl rfl rfl rfl rfl rfl rfl ⟨rfl, rfl, rfl, rfl, rfl⟩ rfl rfl rfl rfl rfl (by kernel_rfl) Tryz.func6 (by kernel_rfl)
    (of_decide_eq_true (by kernel_rfl)) (by unfold Func.isWrapper; first | (rw [if_pos (by decide +kernel)]; kernel_rfl) | (rw [if_neg (by decide +kernel)]; exact ⟨rfl, rfl⟩))
    (fun os started H enc _ F => by rw [OpenClaim.pre_eq_preRow]; exact lifted os started H enc F)

theorem plain (f : FuncId) (fn : Func) (hf : Tryz.pinned.checked.prog.funcNamed "marshalyard/marshalyardlaw11.KeyspaceApart" = some f) (hfn : Tryz.pinned.checked.prog.funcs[f]? = some fn) :
    true = Tryz.pinned.checked.prog.looks [] ∧ ∀ (j : Nat) t, fn.params[j]? = some t → Tryz.pinned.checked.prog.wantsStandIn t = false := by
  obtain rfl : f = 6 := Option.some.inj ((show Tryz.prog.funcNamed "marshalyard/marshalyardlaw11.KeyspaceApart" = some 6 by kernel_rfl).symm.trans hf) |>.symm
  obtain rfl : fn = Tryz.f6 := (Option.some.inj (Tryz.func6.symm.trans hfn)).symm
  refine ⟨by kernel_rfl, fun j t ht => ?_⟩
  rw [Tryz.params6] at ht
  have hm : t = 22 := by simpa using Array.mem_of_getElem? ht
  rcases hm with rfl
  · exact (show Tryz.prog.wantsStandIn 22 = false by kernel_rfl)

end Go.Proofs.YtoecokidooaaoaaGreatDoor.keyspaceApart
namespace Go.Proofs.YtoecokidooaaoaaGreatDoor
open Go
/-- THE CARD -/
theorem keyspaceApart_card : Rows.KeyspaceApartCardSaid :=
  Claim7.holds_tied_plain_at .later [] _ _ _ _ keyspaceApart.said (fun _ h => by cases h) (by kernel_rfl) (fun _ h => by cases h) keyspaceApart_row_tie rfl ⟨rfl, rfl⟩ (by kernel_rfl) rfl keyspaceApart.plain (by kernel_rfl)
#print axioms keyspaceApart_card
end Go.Proofs.YtoecokidooaaoaaGreatDoor
