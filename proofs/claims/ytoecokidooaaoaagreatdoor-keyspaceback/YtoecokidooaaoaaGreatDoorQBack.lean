/- LawAll, OrderP, BackP, LawBack, KeyspaceBack. -/
import Derived.Test.YtoecokidooaaoaaGreatDoorM43
import Derived.Test.YtoecokidooaaoaaGreatDoorM42
import Derived.Test.YtoecokidooaaoaaGreatDoorM41
import Derived.Test.YtoecokidooaaoaaGreatDoorCards
import Derived.Test.YtoecokidooaaoaaGreatDoorTie
import Derived.ProofKit
import Derived.OpenShut
import Derived.ShutString
import Derived.ChangeMaps5
import Derived.ChangeOld
import Derived.RowKit
import Derived.Deep.DeepHandedRow
import Derived.SizedLaws
import Derived.Test.YtoecokidooaaoaaGreatDoorM44
namespace Go.Proofs.YtoecokidooaaoaaGreatDoor
open Go.RowKit

theorem Both.below {B : Nat} {w w' : World} {b : Nat} {O A P : Nat → Prop} {L : List EP} {room now : Int} {p : Option Addr} {c n : Nat} (h : Both B w b O A P L room now p c n) (k : Below w.heap.size w w') : Both B w' b O A P L room now p c n := by
  obtain ⟨k1, ⟨R, k2, k3⟩, k4⟩ := h
  exact ⟨k1.below k, ⟨R, k2.below k, k3⟩, k4⟩
set_option maxHeartbeats 4000000 in
set_option maxRecDepth 100000 in
theorem all_any {B : Nat} (hB0 : 0 < B) (w : World) (hT : Tab w) (hB : B ≤ w.heap.size) (room : Int) (p : Option Addr) (ops : List OpK) (cp : Nat) (hG : Given w p ops) :
    Calls Tryz.prog 3 #[.int .i64 room, .slice p ops.length cp] w fun e w' => e = .returned (.bool true) ∧ Hid (Below w.heap.size w w') := by
  have HAl := hid (fun W (h : Below w.heap.size w W) => alive_any hB0 W (hT.env h) (Nat.le_trans hB h.size))
  have hba := below_alloc w (sob none 0 0 0 0)
  cases hf : fewB ops with
  | false =>
    have HM := hid (fun W (h : Below w.heap.size w W) => begun_many hB0 W (hT.env h) (Nat.le_trans hB h.size) room p ops cp (hG.below h) hf)
    clear hT hG hba
    go_enter Tryz.func3, Tryz.ntmps3
    go_wp2_with fail
    refine (HM.out w (Below.refl _ _)).mono ?_; rintro e w1 ⟨rfl, hh⟩
    have HW2 := hid (hh.out.trans ((below_alloc w1 (sob none 0 0 room 0)).mono hh.out.size))
    have HR := hid (heap_alloc_new w1 (sob none 0 0 room 0))
    obtain ⟨r0, r1, r2⟩ := sp_facts HR.out
    clear hh
    go_wp2_with fail
    refine (HAl.out _ HW2.out).mono ?_; rintro e w3 ⟨rfl, hh⟩
    have HW3 := hid (HW2.out.trans (hh.out.mono HW2.out.size))
    clear hh
    go_wp2_with fail
    go_ret
    exact ⟨rfl, HW3.out⟩
  | true =>
    have HM := hid (fun W (h : Below w.heap.size w W) => begun_few hB0 W (hT.env h) (Nat.le_trans hB h.size) room p ops cp (hG.below h) hf)
    clear hT hG hba
    go_enter Tryz.func3, Tryz.ntmps3
    go_wp2_with fail
    refine (HM.out w (Below.refl _ _)).mono ?_; rintro e w1 ⟨b, q, d, rfl, hh⟩
    obtain ⟨O, A, hbo, -, hb1⟩ := hh.out
    generalize runL room ops = s at *
    obtain ⟨L, nw⟩ := s
    dsimp only at *
    have hba := below_alloc w1 (sob q L.length d room nw)
    have HW2 := hid (hb1.trans (hba.mono hb1.size))
    have HB2 := hid (hbo.below hba)
    have HR := hid (heap_alloc_new w1 (sob q L.length d room nw))
    obtain ⟨r0, r1, r2⟩ := sp_facts HR.out
    have hz : w1.heap.size < (w1.alloc (sob q L.length d room nw)).heap.size := by simp
    have HZ := hid hz
    clear hh hbo hb1 hba hz
    go_wp2_with fail
    refine (HAl.out _ HW2.out).mono ?_; rintro e w3 ⟨rfl, hh⟩
    have HW3 := hid (HW2.out.trans (hh.out.mono HW2.out.size))
    have HB3 := hid (HB2.out.below hh.out)
    obtain ⟨s0, s1, s2⟩ := sp_facts ((hh.out.block w1.heap.size HZ.out).trans HR.out)
    clear hh r0 r1 r2
    go_wp2_with fail
    refine (stands_any HB3.out).mono ?_; rintro e w4 ⟨rfl, hh⟩
    have HW4 := hid (HW3.out.trans (hh.out.mono HW3.out.size))
    clear hh
    go_wp2_with fail
    go_ret
    exact ⟨rfl, HW4.out⟩

end Go.Proofs.YtoecokidooaaoaaGreatDoor

namespace Go.Proofs.YtoecokidooaaoaaGreatDoor
open Go.RowKit

def GoodE (x : EP) : Prop := ¬ argBadP x 0 ∧ rightB x.2.1 = true
/-- a space behind puts of the entries d -/
structure OrdIs (d L : List EP) : Prop where
  srt : SrtL L
  mem : ∀ x, x ∈ L ↔ x ∈ d ∧ GoodE x
  len : L.length ≤ d.length
theorem ord_nil : OrdIs [] [] := by
  refine ⟨List.Pairwise.nil, fun x => ⟨fun h => ?_, fun h => ?_⟩, Nat.le_refl _⟩
  · cases h
  · cases h.1
theorem OrdIs.short {d L : List EP} (h : OrdIs d L) : ∀ x ∈ L, x.1.length ≤ 1024 := fun x hx => by
  have := ((h.mem x).1 hx).2.1
  unfold argBadP at this
  omega
theorem OrdIs.next {d L : List EP} (h : OrdIs d L) {x : EP} (hk : ∀ y ∈ d, y.1 ≠ x.1) (hd : d.length < 200) : OrdIs (d ++ [x]) (putLL L 1099511627776 0 x) := by
  have hn : getL x.1 L = none := getL_none.2 fun y hy => hk y ((h.mem y).1 hy).1
  have hl := h.len
  by_cases hg : GoodE x
  · have he : putEL L 1099511627776 0 x = 0 := by
      unfold putEL
      rw [if_neg hg.1, if_neg (by rw [hg.2]; decide), delL_none hn, hn, if_neg]
      rintro (⟨_, h⟩ | ⟨h', _⟩)
      · omega
      · have h1 := memL_le h.short
        have h2 := tkE_le (x := x) (by have := hg.1; unfold argBadP at this; omega)
        omega
    unfold putLL
    rw [if_pos he, insL_eq, delL_none hn]
    refine ⟨insR_srt h.srt (getL_none.1 hn), fun y => ?_, by rw [insR_len, List.length_append]; simp; omega⟩
    rw [insR_mem, h.mem, List.mem_append, List.mem_singleton]
    constructor
    · rintro (rfl | ⟨h1, h2⟩)
      · exact ⟨.inr rfl, hg⟩
      · exact ⟨.inl h1, h2⟩
    · rintro ⟨h1 | h1, h2⟩
      · exact .inr ⟨h1, h2⟩
      · exact .inl h1
  · have he : putEL L 1099511627776 0 x ≠ 0 := by
      unfold putEL
      by_cases h1 : argBadP x 0
      · rw [if_pos h1]; decide
      · have h2 : rightB x.2.1 = false := by
          cases hr : rightB x.2.1 with
          | false => rfl
          | true => exact absurd ⟨h1, hr⟩ hg
        rw [if_neg h1, if_pos h2]; decide
    unfold putLL
    rw [if_neg he]
    refine ⟨h.srt, fun y => ?_, by rw [List.length_append]; omega⟩
    rw [h.mem, List.mem_append, List.mem_singleton]
    constructor
    · rintro ⟨h1, h2⟩
      exact ⟨.inl h1, h2⟩
    · rintro ⟨h1 | h1, h2⟩
      · exact ⟨h1, h2⟩
      · exact absurd (h1 ▸ h2) hg
theorem srt_ext : ∀ {L M : List EP}, SrtL L → SrtL M → (∀ x, x ∈ L ↔ x ∈ M) → L = M
  | [], [], _, _, _ => rfl
  | [], y :: M, _, _, h => absurd ((h y).2 List.mem_cons_self) List.not_mem_nil
  | x :: L, [], _, _, h => absurd ((h x).1 List.mem_cons_self) List.not_mem_nil
  | x :: L, y :: M, h1, h2, h => by
    have a1 := List.pairwise_cons.1 h1
    have a2 := List.pairwise_cons.1 h2
    have e : x = y := by
      rcases List.mem_cons.1 ((h x).1 List.mem_cons_self) with e | hx
      · exact e
      · rcases List.mem_cons.1 ((h y).2 List.mem_cons_self) with e | hy
        · exact e.symm
        · exact absurd (a1.1 y hy) (fun h3 => (List.lt_irrefl x.1) (List.lt_trans h3 (a2.1 x hx)))
    subst e
    have : L = M := srt_ext a1.2 a2.2 fun z => by
      constructor
      · intro hz
        rcases List.mem_cons.1 ((h z).1 (List.mem_cons_of_mem _ hz)) with e | h3
        · exact absurd (a1.1 z hz) (by rw [e]; exact List.lt_irrefl _)
        · exact h3
      · intro hz
        rcases List.mem_cons.1 ((h z).2 (List.mem_cons_of_mem _ hz)) with e | h3
        · exact absurd (a2.1 z hz) (by rw [e]; exact List.lt_irrefl _)
        · exact h3
    rw [this]
theorem OrdIs.uniq {d d' L L' : List EP} (h : OrdIs d L) (h' : OrdIs d' L') (hd : ∀ x, x ∈ d ↔ x ∈ d') : L = L' := srt_ext h.srt h'.srt fun x => by rw [h.mem, h'.mem, hd]

end Go.Proofs.YtoecokidooaaoaaGreatDoor

namespace Go.Proofs.YtoecokidooaaoaaGreatDoor
open Go.RowKit

theorem back_list {L : List EP} (hs : SrtL L) {x : EP} (hn : getL x.1 L = none) (room now : Int) : delL x.1 (putLL L room now x) = L := by
  unfold putLL
  split
  · rw [insL_eq, delL_none hn]
    refine srt_ext ((insR_srt hs (getL_none.1 hn)).del _) hs fun y => ?_
    rw [delL_mem, insR_mem]
    constructor
    · rintro ⟨rfl | h, h2⟩
      · exact absurd rfl h2
      · exact h
    · exact fun h => ⟨.inr h, getL_none.1 hn y h⟩
  · exact delL_none hn

end Go.Proofs.YtoecokidooaaoaaGreatDoor

namespace Go.Proofs.YtoecokidooaaoaaGreatDoor
open Go.RowKit

set_option maxHeartbeats 8000000 in
set_option maxRecDepth 100000 in
theorem back_any {B : Nat} (hB0 : 0 < B) (w : World) (hT : Tab w) (hB : B ≤ w.heap.size) (p : Option Addr) (ops : List OpK) (cp : Nat) (x : E8) (hG : Given w p ops) (hx : Arg8 x) (hV : Lies (fun j => j < w.heap.size) w x) :
    Calls Tryz.prog 7 #[.slice p ops.length cp, ev x] w fun e w' => e = .returned (.bool true) ∧ Hid (Below w.heap.size w w') := by
  have hb0 := below_alloc w (eob x)
  have hT0 := hT.env hb0
  have hB1 : B ≤ (w.alloc (eob x)).heap.size := Nat.le_trans hB hb0.size
  have hs0 : (w.alloc (eob x)).heap.size = w.heap.size + 1 := by simp
  have HAl := hid (fun W (h : Below w.heap.size w W) => alive_any hB0 W (hT.env h) (Nat.le_trans hB h.size))
  have HX0 := hid (ent_new w x)
  have HB0 := hid hb0
  have HZ0 := hid hs0
  cases hf : fewB ops with
  | false =>
    have HM := hid (begun_many hB0 (w.alloc (eob x)) hT0 hB1 1073741824 p ops cp (hG.below hb0) hf)
    clear hT hG hf hb0 hT0 hB1 hs0
    go_enter Tryz.func7, Tryz.ntmps7
    go_wp2_with fail
    refine HM.out.mono ?_; rintro e w1 ⟨rfl, hh⟩
    have HW1 := hid (HB0.out.trans (hh.out.mono HB0.out.size))
    have HW2 := hid (HW1.out.trans ((below_alloc w1 (sob none 0 0 1073741824 0)).mono HW1.out.size))
    have HR := hid (heap_alloc_new w1 (sob none 0 0 1073741824 0))
    obtain ⟨r0, r1, r2⟩ := sp_facts HR.out
    clear hh
    go_wp2_with fail
    refine (HAl.out _ HW2.out).mono ?_; rintro e w3 ⟨rfl, hh⟩
    have HW3 := hid (HW2.out.trans (hh.out.mono HW2.out.size))
    clear hh
    go_wp2_with fail
    go_ret
    exact ⟨rfl, HW3.out⟩
  | true =>
    have HM := hid (begun_few hB0 (w.alloc (eob x)) hT0 hB1 1073741824 p ops cp (hG.below hb0) hf)
    have HVx := hid hV
    have HAx := hid hx
    clear hT hG hf hb0 hT0 hB1 hs0 hV hx
    go_enter Tryz.func7, Tryz.ntmps7
    go_wp2_with fail
    refine HM.out.mono ?_; rintro e w1 ⟨b, q, d, rfl, hh⟩
    obtain ⟨O, A, hbo, hA, hb1⟩ := hh.out
    generalize runL 1073741824 ops = s at *
    obtain ⟨L, nw⟩ := s
    dsimp only at *
    have hba := below_alloc w1 (sob q L.length d 1073741824 nw)
    have HW1 := hid (HB0.out.trans (hb1.mono HB0.out.size))
    have HW2 := hid (HW1.out.trans (hba.mono HW1.out.size))
    have HB2 := hid (hbo.below hba)
    have HA2 := hid hA
    have HR := hid (heap_alloc_new w1 (sob q L.length d 1073741824 nw))
    have HZ : Hid (w1.heap.size < (w1.alloc (sob q L.length d 1073741824 nw)).heap.size) := by simp [Hid]
    have HNa : Hid (¬ A w1.heap.size) := fun h => by have := (hbo.sp.lt _ h).2; omega
    have HX1 := hid ((hb1.block w.heap.size (by have := HZ0.out; omega)).trans HX0.out)
    have HX2 := hid ((hba.block w.heap.size (Array.getElem?_eq_some_iff.1 HX1.out).1).trans HX1.out)
    have HXz : Hid (w.heap.size < (w1.alloc (sob q L.length d 1073741824 nw)).heap.size) := (Array.getElem?_eq_some_iff.1 HX2.out).1
    have HNx : Hid (∀ k, k ≤ w.heap.size → ¬ A k) := fun k hk h => by have := (hA k h).1; have := HZ0.out; omega
    obtain ⟨r0, r1, r2⟩ := sp_facts HR.out
    obtain ⟨e0, e1, e2, e3, e4, e5, e6, e7⟩ := ent_facts HX2.out
    clear hh hbo hb1 hba hA
    by_cases hi : 300 < x.m.items.length
    · have hiz : 300 < (x.m.items.length : Int) := by omega
      go_wp2_with fail
      refine (HAl.out _ HW2.out).mono ?_; rintro e w3 ⟨rfl, hh⟩
      have HW3 := hid (HW2.out.trans (hh.out.mono HW2.out.size))
      clear hh
      go_wp2_with fail
      go_ret
      exact ⟨rfl, HW3.out⟩
    have hiz : (x.m.items.length : Int) ≤ 300 := by omega
    by_cases hp : 300 < x.m.pairs.length
    · have hpz : 300 < (x.m.pairs.length : Int) := by omega
      go_wp2_with fail
      refine (HAl.out _ HW2.out).mono ?_; rintro e w3 ⟨rfl, hh⟩
      have HW3 := hid (HW2.out.trans (hh.out.mono HW2.out.size))
      clear hh
      go_wp2_with fail
      go_ret
      exact ⟨rfl, HW3.out⟩
    have hpz : (x.m.pairs.length : Int) ≤ 300 := by omega
    clear hi hp
    have HGt := hid (sp_get HB2.out.sp x.key HAx.out.key)
    go_wp2_with fail
    refine HGt.out.mono ?_; rintro e w3 ⟨y, rfl, hh⟩
    have hb3 := hh.out.2.2
    have hba4 := below_alloc w3 (eob y)
    have hb4 := hb3.trans (hba4.mono hb3.size)
    have HW4 := hid (HW2.out.trans (hb4.mono HW2.out.size))
    have HB4 := hid (HB2.out.below hb4)
    have HX4 := hid ((hb4.block w.heap.size HXz.out).trans HX2.out)
    have HR4 := hid ((hb4.block w1.heap.size HZ.out).trans HR.out)
    have HZ4 : Hid (w1.heap.size < (w3.alloc (eob y)).heap.size) := (Array.getElem?_eq_some_iff.1 HR4.out).1
    clear hh hb3 hba4 hb4 r0 r1 r2 e0 e1 e2 e3 e4 e5 e6 e7 HGt
    cases hg : getL x.key L with
    | some z =>
      go_wp2_with fail
      refine (HAl.out _ HW4.out).mono ?_; rintro e w5 ⟨rfl, hh⟩
      have HW5 := hid (HW4.out.trans (hh.out.mono HW4.out.size))
      clear hh
      go_wp2_with fail
      go_ret
      exact ⟨rfl, HW5.out⟩
    | none =>
      have HL4 : Hid (Lies (Off O) (w3.alloc (eob y)) x) := (HVx.out.below HW4.out).keep (Keep.refl _ _) (fun k hk ho => HNx.out k (by omega) (HB4.out.sp.sub k ho))
      have HPt := hid (sp_put HB4.out.sp x HAx.out HL4.out)
      have HBk := hid (back_list HB4.out.sp.srt (x := pr8 x) hg 1073741824 nw)
      obtain ⟨e0, e1, e2, e3, e4, e5, e6, e7⟩ := ent_facts HX4.out
      clear HL4
      go_wp2_with fail
      refine HPt.out.mono ?_; rintro e w5 ⟨rfl, hh⟩
      obtain ⟨O5, A5, hS5, hst5⟩ := hh.out
      have HX5 := hid ((hst5.keep.block w.heap.size (Array.getElem?_eq_some_iff.1 HX4.out).1 (fun ho => HNx.out w.heap.size (Nat.le_refl _) (HB4.out.sp.sub _ ho))).trans HX4.out)
      have HDl := hid (sp_del hS5 x.key HAx.out.key)
      have HSt5 := hid hst5
      have HBk2 : Hid (delL x.key (putLL L 1073741824 nw (pr8 x)) = L) := HBk.out
      rw [HBk2.out] at HDl
      clear hh hS5 hst5 e0 e1 e2 e3 e4 e5 e6 e7 HPt HBk HBk2
      obtain ⟨e0, e1, e2, e3, e4, e5, e6, e7⟩ := ent_facts HX5.out
      generalize getL x.key (putLL L 1073741824 nw (pr8 x)) = gg at *
      generalize putEL L 1073741824 nw (pr8 x) = pe at *
      go_wp2_with fail
      refine HDl.out.mono ?_; rintro e w6 ⟨rfl, hh⟩
      obtain ⟨O6, A6, hS6, hst6⟩ := hh.out
      have hst := HSt5.out.trans hst6
      obtain ⟨hsp, ⟨R, hR, hm⟩, -⟩ := HB4.out
      have HW6 : Hid (Below w.heap.size w w6) := ⟨hst.keep.os.trans HW4.out.os, hst.keep.tape.trans HW4.out.tape, hst.keep.output.trans HW4.out.output, Nat.le_trans HW4.out.size hst.keep.size, fun k hk => (hst.keep.block k (Nat.lt_of_lt_of_le hk HW4.out.size) (fun ho => HNx.out k (by omega) (hsp.sub _ ho))).trans (HW4.out.block k hk)⟩
      have HR6 := hid ((hst.keep.block w1.heap.size HZ4.out (fun ho => HNa.out (hsp.sub _ ho))).trans HR4.out)
      have hR6 : Rde (fun j => ¬ O6 j ∧ True) w6 q d R := hR.keepB (hst.keep.mono (fun k hk => hk.1)) (fun i hi hp => ⟨fun ho => by
        rcases hst.o i ho with h | h
        · exact hp.1 h
        · omega, trivial⟩)
      have HB6 : Hid (Both B w6 b O6 A6 (fun _ => True) L 1073741824 nw q d L.length) := ⟨hS6, ⟨R, hR6, hm⟩, rfl⟩
      have HZ6 : Hid (w1.heap.size < w6.heap.size) := (Array.getElem?_eq_some_iff.1 HR6.out).1
      clear hh hS6 hst6 hst hsp hR hm hR6 e0 e1 e2 e3 e4 e5 e6 e7 HDl
      go_wp2_with fail
      refine (HAl.out _ HW6.out).mono ?_; rintro e w7 ⟨rfl, hh⟩
      have HW7 := hid (HW6.out.trans (hh.out.mono HW6.out.size))
      have HB7 := hid (HB6.out.below hh.out)
      obtain ⟨t0, t1, t2⟩ := sp_facts ((hh.out.block w1.heap.size HZ6.out).trans HR6.out)
      clear hh
      go_wp2_with fail
      refine (stands_any HB7.out).mono ?_; rintro e w8 ⟨rfl, hh⟩
      have HW8 := hid (HW7.out.trans (hh.out.mono HW7.out.size))
      clear hh
      go_wp2_with fail
      go_ret
      exact ⟨rfl, HW8.out⟩

end Go.Proofs.YtoecokidooaaoaaGreatDoor

namespace Go.Proofs.YtoecokidooaaoaaGreatDoor.keyspaceBack
open Go.ChangeShapes Go.WideShapes Go.ChangeAt Go.RowKit
open Go.ChangeMaps (open_string shut_string)


theorem own : ownKnob Tryz.prog.godebug = none := by kernel_rfl
theorem laidOut : laidOutB Tryz.prog = true := by kernel_rfl
set_option maxRecDepth 100000 in
theorem contract (H : Type) (enc : TypeId × Value → H) (W : World) (base : Nat) (args : Array Value) (ds gs : List (DataW H)) (before : List MemPlace)
    (hval : ∀ (j : Nat) t v, Tryz.f7.params[j]? = some t → args[j]? = some v → Value.okWide Tryz.prog W .any base t v)
    (hW : DataW.Whole enc Tryz.prog Tryz.f7.params.toList Rows.keyspaceBackSpec.vars false W args.toList ds gs before) (hsz0 : (DataW.weightsEach Tryz.prog (Tryz.f7.params.toList ++ Rows.keyspaceBackSpec.plain.varTypes Tryz.prog) (ds ++ gs)).all (· ≤ reachBytes) = true) (hL : laidMetH Tryz.prog listed W) :
    Calls Tryz.prog 7 args W fun e W' => ∃ v, e = .returned v ∧ Rows.keyspaceBackSpec.post enc Tryz.prog Tryz.f7 false true false false W args v W' := by
  have hW' := hW
  obtain ⟨p, q, hA0, hV, rfl, hfz, hnd⟩ := hW
  have hA : DataW.TrodAll enc Tryz.prog W 0 (fun _ => true) true Tryz.f7.params.toList args.toList ds p := hA0
  have hsz : (DataW.weightsEach Tryz.prog (Tryz.f7.params.toList ++ Rows.keyspaceBackSpec.plain.varTypes Tryz.prog) (ds ++ gs)).all (· ≤ reachBytes) = true := hsz0
  clear hsz0
  rw [Tryz.params7] at hA hval hsz
  obtain ⟨v0, vs0, d0, ds0, p0, q0, hargs, rfl, rfl, h0, r0⟩ := trodAll_cons hA
  obtain ⟨v1, vs1, d1, ds1, p1, q1, rfl, rfl, rfl, h1, r1⟩ := trodAll_cons r0
  obtain ⟨rfl, rfl, rfl⟩ := trodAll_nil r1
  obtain rfl : args = #[v0, v1] := by cases args; simp_all
  obtain ⟨rfl, rfl⟩ := trodVars_none hV
  obtain ⟨a0, len0, cap0, rfl⟩ := okWide_slice Tryz.underlying22 (hval 0 22 v0 rfl rfl)
  have k0 := h0
  have lt0 : ∀ x ∈ p0, x.block < W.heap.size := by obtain ⟨m, hm⟩ := k0; exact DataW.trod_lt m _ _ _ hm
  obtain ⟨l0, hl0, hs0⟩ : ∃ l : List OpK, l.length = len0 ∧ Given W a0 l := by
    obtain ⟨m, hm⟩ := h0
    exact open_ops hm (fun n hn => by
      have h : decide (n ≤ reachBytes) = true := List.all_eq_true.1 hsz _ (DataW.weights_mem_each (j := 0) (t := 22) (d := d0) rfl rfl _ hn)
      have h' := of_decide_eq_true h
      simpa [reachBytes] using h')
  subst hl0
  obtain ⟨cs1, rfl, hsz1, _⟩ : ∃ cs, v1 = .agg cs ∧ cs.size = Tryz.prog.cellsOf 47 ∧ Row.okWide Tryz.prog W .any base 47 cs := by
    have := hval 1 47 v1 rfl rfl
    simpa [Value.okWide, Tryz.underlying47] using this
  have k1 := h1
  have lt1 : ∀ x ∈ p1, x.block < W.heap.size := by obtain ⟨m, hm⟩ := k1; exact DataW.trod_lt m _ _ _ hm
  obtain ⟨e1, hc1, hC1, hI1⟩ : ∃ e : E8, cs1 = e.cells ∧ Arg8 e ∧ Lies (fun j => j < W.heap.size) W e := by
    obtain ⟨f, hf⟩ := h1
    obtain ⟨e, h1, h2, h3⟩ := open_ent (show DataW.trod enc Tryz.prog W 0 (fun _ => true) true f 47 cs1.toList = some (d1, p1) from hf) (fun n hn => by
      have h : decide (n ≤ reachBytes) = true := List.all_eq_true.1 hsz _ (DataW.weights_mem_each (j := 1) (t := 47) (d := d1) rfl rfl _ hn)
      have h' := of_decide_eq_true h
      simpa [reachBytes] using h')
    exact ⟨e, Array.toList_inj.1 h1, h2, h3⟩
  subst hc1
  clear hA0
  have hT := env_of hL
  refine (back_any (tab_lt hT) W hT (Nat.le_refl _) a0 l0 cap0 e1  hs0 hC1 hI1).mono fun e W' ⟨he, bel⟩ => ?_
  subst he
  exact ⟨_, rfl, _, _, _, [], _, [], hW', trodAll_mk1 (shut_bool Tryz.underlying4 _), (trodAll_cons_mk (Below.trod laidOut (by kernel_rfl) (of_decide_eq_true (by kernel_rfl)) k0 bel lt0) (trodAll_cons_mk (Below.trod laidOut (by kernel_rfl) (of_decide_eq_true (by kernel_rfl)) k1 bel lt1) trodAll_mk0)), rfl, bel.frame _, fun h => by cases h⟩
theorem reads (os : Os) {H : Type} (enc : TypeId × Value → H) : ∃ places, DataW.whole enc Tryz.prog ((laidWorld Tryz.prog os).forCall (fun _ _ => 0) ⟨#[], #[.slice none 0 0, .agg #[.string ⟨#[]⟩, .int .i64 0, .string ⟨#[]⟩, .slice none 0 0, .slice none 0 0, .int .i64 0, .int .i64 0, .int .i64 0]], []⟩).memory Tryz.f7.params.toList Rows.keyspaceBackSpec.vars false (#[.slice none 0 0, .agg #[.string ⟨#[]⟩, .int .i64 0, .string ⟨#[]⟩, .slice none 0 0, .slice none 0 0, .int .i64 0, .int .i64 0, .int .i64 0]] : Array Value).toList 8 = some ([.nil, .agg [.lit (.string []), .agg [.lit (.int .i64 0), .lit (.string []), .nil, .nil, .agg [.lit (.int .i64 0), .lit (.int .i64 0)]], .lit (.int .i64 0)]], [], places) :=
  ⟨[], by kernel_rfl⟩

set_option maxRecDepth 100000 in
theorem lifted (os : Os) (started : os.Started) (H : Type) (enc : TypeId × Value → H) (F : Stop.Interp) :
    ReturnsInHanded {} Tryz.checked os 7 .any ((OpenSpec.ofChange Rows.keyspaceBackSpec).preRow enc Tryz.prog Tryz.f7 Rows.keyspaceBackRow.domain false Rows.keyspaceBackRow.laid) (((OpenSpec.ofChange Rows.keyspaceBackSpec).at F).post enc Tryz.prog Tryz.f7 false true false false) := by
  obtain ⟨places, hx⟩ := reads os enc
  refine returnsInHanded_of_row (C := Tryz.checked) (s := OpenSpec.ofChange Rows.keyspaceBackSpec) own started (by kernel_rfl) Tryz.func7
    (witness_row_at (enc := enc) (C := Tryz.checked) false (laidWorld Tryz.prog os) #[.slice none 0 0, .agg #[.string ⟨#[]⟩, .int .i64 0, .string ⟨#[]⟩, .slice none 0 0, .slice none 0 0, .int .i64 0, .int .i64 0, .int .i64 0]] rfl (by kernel_rfl) (by kernel_rfl) (by kernel_rfl)
      (OpenSpec.preRow_of_cond 8 hx (by kernel_rfl) (fun k hk => by cases hk) (by kernel_rfl) (laid_met os _))) ?_
  intro W base args ds gs before hval hW _ hcond hsz hL _ _
  exact contract H enc W base args ds gs before hval hW hsz hL

theorem said : Rows.KeyspaceBackSaid :=
  OpenClaim.holds_of_cond 7 Tryz.f7 rfl rfl rfl rfl rfl rfl rfl ⟨rfl, rfl, rfl, rfl, rfl⟩ rfl rfl rfl rfl rfl (by kernel_rfl) Tryz.func7 (by kernel_rfl)
    (of_decide_eq_true (by kernel_rfl)) (by unfold Func.isWrapper; first | (rw [if_pos (by decide +kernel)]; kernel_rfl) | (rw [if_neg (by decide +kernel)]; exact ⟨rfl, rfl⟩))
    (fun os started H enc _ F => by rw [OpenClaim.pre_eq_preRow]; exact lifted os started H enc F)

theorem plain (f : FuncId) (fn : Func) (hf : Tryz.pinned.checked.prog.funcNamed "marshalyard/marshalyardlaw11.KeyspaceBack" = some f) (hfn : Tryz.pinned.checked.prog.funcs[f]? = some fn) :
    true = Tryz.pinned.checked.prog.looks [] ∧ ∀ (j : Nat) t, fn.params[j]? = some t → Tryz.pinned.checked.prog.wantsStandIn t = false := by
  obtain rfl : f = 7 := Option.some.inj ((show Tryz.prog.funcNamed "marshalyard/marshalyardlaw11.KeyspaceBack" = some 7 by kernel_rfl).symm.trans hf) |>.symm
  obtain rfl : fn = Tryz.f7 := (Option.some.inj (Tryz.func7.symm.trans hfn)).symm
  refine ⟨by kernel_rfl, fun j t ht => ?_⟩
  rw [Tryz.params7] at ht
  have hm : t = 22 ∨ t = 47 := by simpa using Array.mem_of_getElem? ht
  rcases hm with rfl | rfl
  · exact (show Tryz.prog.wantsStandIn 22 = false by kernel_rfl)
  · exact (show Tryz.prog.wantsStandIn 47 = false by kernel_rfl)

end Go.Proofs.YtoecokidooaaoaaGreatDoor.keyspaceBack
namespace Go.Proofs.YtoecokidooaaoaaGreatDoor
open Go
/-- THE CARD -/
theorem keyspaceBack_card : Rows.KeyspaceBackCardSaid :=
  Claim7.holds_tied_plain_at .later [] _ _ _ _ keyspaceBack.said (fun _ h => by cases h) (by kernel_rfl) (fun _ h => by cases h) keyspaceBack_row_tie rfl ⟨rfl, rfl⟩ (by kernel_rfl) rfl keyspaceBack.plain (by kernel_rfl)
#print axioms keyspaceBack_card
end Go.Proofs.YtoecokidooaaoaaGreatDoor
