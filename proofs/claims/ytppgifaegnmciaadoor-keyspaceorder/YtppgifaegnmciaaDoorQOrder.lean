/- LawOrder, KeyspaceOrder. -/
import Derived.Test.YtppgifaegnmciaaDoorM42
import Derived.Test.YtppgifaegnmciaaDoorM43
import Derived.Test.YtppgifaegnmciaaDoorM23
import Derived.Test.YtppgifaegnmciaaDoorM41
import Derived.Test.YtppgifaegnmciaaDoorCards
import Derived.Test.YtppgifaegnmciaaDoorTie
import Derived.ProofKit
import Derived.OpenShut
import Derived.ShutString
import Derived.ChangeMaps5
import Derived.ChangeOld
import Derived.RowKit
import Derived.Deep.DeepHandedRow
import Derived.SizedLaws
import Derived.Test.YtppgifaegnmciaaDoorM45
import Derived.Test.YtppgifaegnmciaaDoorM46
namespace Go.Proofs.YtppgifaegnmciaaDoor
open Go.RowKit

/-- two spaces that do not meet -/
structure Prr (B N : Nat) (W : World) (b1 : Nat) (O1 A1 : Nat → Prop) (L1 : List EP) (b2 : Nat) (O2 A2 : Nat → Prop) (L2 : List EP) : Prop where
  one : Sp B W b1 O1 A1 L1 1099511627776 0
  two : Sp B W b2 O2 A2 L2 1099511627776 0
  a1 : ∀ k, A1 k → ¬ O2 k ∧ N ≤ k
  a2 : ∀ k, A2 k → ¬ O1 k ∧ N ≤ k
theorem Prr.swap {B N : Nat} {W : World} {b1 b2 : Nat} {O1 A1 O2 A2 : Nat → Prop} {L1 L2 : List EP} (h : Prr B N W b1 O1 A1 L1 b2 O2 A2 L2) : Prr B N W b2 O2 A2 L2 b1 O1 A1 L1 := ⟨h.two, h.one, h.a2, h.a1⟩
theorem Prr.below {B N : Nat} {W W' : World} {b1 b2 : Nat} {O1 A1 O2 A2 : Nat → Prop} {L1 L2 : List EP} (h : Prr B N W b1 O1 A1 L1 b2 O2 A2 L2) (k : Below W.heap.size W W') : Prr B N W' b1 O1 A1 L1 b2 O2 A2 L2 := ⟨h.one.below k, h.two.below k, h.a1, h.a2⟩
theorem Prr.turn {B N : Nat} {W W' : World} {b1 b2 : Nat} {O1 A1 O2 A2 O1' A1' : Nat → Prop} {L1 L2 L1' : List EP} (h : Prr B N W b1 O1 A1 L1 b2 O2 A2 L2) (h1 : Sp B W' b1 O1' A1' L1' 1099511627776 0) (hst : Stp W W' O1 O1' A1 A1') (hN : N ≤ W.heap.size) :
    Prr B N W' b1 O1' A1' L1' b2 O2 A2 L2 ∧ Below N W W' := by
  refine ⟨⟨h1, h.two.turn (hst.keep.mono (fun k hk ho => ?_)), fun k hk => ?_, fun k hk => ⟨fun ho => ?_, (h.a2 k hk).2⟩⟩, ⟨hst.keep.os, hst.keep.tape, hst.keep.output, hst.keep.size, fun k hk => hst.keep.block k (by omega) (fun ho => ?_)⟩⟩
  · rcases hk with hk | hk
    · have := (h.one.lt k (h.one.sub k ho)).1; omega
    · exact (h.a2 k hk).1 ho
  · rcases hst.a k hk with h' | h'
    · exact h.a1 k h'
    · exact ⟨fun ho => by have := (h.two.lt k (h.two.sub k ho)).2; omega, by omega⟩
  · rcases hst.o k ho with h' | h'
    · exact (h.a2 k hk).1 h'
    · have := (h.two.lt k hk).2; omega
  · have := (h.a1 k (h.one.sub k ho)).2; omega
/-- entries of unlike keys -/
def Unl (l : List E8) : Prop := ∀ i j (hij : i < j) (hj : j < l.length), l[i].key ≠ l[j].key
theorem ord_take {l : List E8} (hu : Unl l) (hl : l.length ≤ 100) {i : Nat} (hi : i < l.length) {L : List EP} (h : OrdIs ((l.take i).map pr8) L) : OrdIs ((l.take (i + 1)).map pr8) (putLL L 1099511627776 0 (pr8 l[i])) := by
  rw [List.take_succ_eq_append_getElem hi, List.map_append]
  refine h.next (fun y hy => ?_) (by rw [List.length_map, List.length_take]; omega)
  obtain ⟨x, hx, rfl⟩ := List.mem_map.1 hy
  obtain ⟨j, hj, rfl⟩ := List.getElem_of_mem hx
  rw [List.length_take] at hj
  rw [List.getElem_take]
  exact hu j i (by omega) hi
theorem unl_rev {l : List E8} (hu : Unl l) : Unl l.reverse := fun i j hij hj => by
  rw [List.length_reverse] at hj
  rw [List.getElem_reverse, List.getElem_reverse]
  exact fun e => hu (l.length - 1 - j) (l.length - 1 - i) (by omega) (by omega) e.symm
theorem ord_end {l : List E8} {L M : List EP} (h1 : OrdIs ((l.take l.length).map pr8) L) (h2 : OrdIs ((l.reverse.take l.length).map pr8) M) : L = M := by
  refine h1.uniq h2 fun x => ?_
  rw [List.take_of_length_le (Nat.le_refl _), List.take_of_length_le (by simp)]
  simp
/-- where a row's cells lie -/
abbrev Cells8 (w : World) (g o : Nat) (i : Nat) (x : E8) : Prop := w.cell? ⟨g, o + i * 8, none⟩ = some (txt x.key) ∧ w.cell? ⟨g, o + i * 8 + 1, none⟩ = some (.int .i64 x.m.kind) ∧ w.cell? ⟨g, o + i * 8 + 2, none⟩ = some (txt x.m.text) ∧ w.cell? ⟨g, o + i * 8 + 3, none⟩ = some (.slice x.pp x.m.pairs.length x.pc) ∧ w.cell? ⟨g, o + i * 8 + 4, none⟩ = some (.slice x.ip x.m.items.length x.ic) ∧ w.cell? ⟨g, o + i * 8 + 5, none⟩ = some (.int .i64 x.m.px) ∧ w.cell? ⟨g, o + i * 8 + 6, none⟩ = some (.int .i64 x.m.py) ∧ w.cell? ⟨g, o + i * 8 + 7, none⟩ = some (.int .i64 x.ends)
theorem Rde.all {P : Nat → Prop} {w : World} {p : Option Addr} {c : Nat} {R : List E8} (h : Rde P w p c R) (hne : 0 < R.length) : ∃ g o, p = some ⟨g, o, none⟩ ∧ P g ∧ ∀ (W : World), W.heap[g]? = w.heap[g]? → ∀ i (hi : i < R.length), Cells8 W g o i R[i] := by
  obtain ⟨g, o, rfl, hp, -⟩ := h.facts 0 hne
  refine ⟨g, o, rfl, hp, fun W hW i hi => ?_⟩
  obtain ⟨g', o', he, -, -, z0, z1, z2, z3, z4, z5, z6, z7⟩ := h.facts i hi
  injection he with he
  injection he with e1 e2
  subst e1 e2
  exact ⟨cell_turn z0 hW, cell_turn z1 hW, cell_turn z2 hW, cell_turn z3 hW, cell_turn z4 hW, cell_turn z5 hW, cell_turn z6 hW, cell_turn z7 hW⟩
set_option maxHeartbeats 16000000 in
set_option maxRecDepth 100000 in
theorem order_any {B : Nat} (hB0 : 0 < B) (w : World) (hT : Tab w) (hB : B ≤ w.heap.size) (p : Option Addr) (l : List E8) (cp : Nat) (hR : Rde (fun j => j < w.heap.size) w p cp l) (hA : ∀ x ∈ l, Arg8 x) (hl : l.length ≤ 140737488351232) :
    Calls Tryd.prog 4 #[.slice p l.length cp] w fun e w' => e = .returned (.bool true) ∧ Hid (Below w.heap.size w w') := by
  have HAl := hid (fun W (h : Below w.heap.size w W) => alive_any hB0 W (hT.env h) (Nat.le_trans hB h.size))
  have HN := hid (fun W (h : Below w.heap.size w W) => knew_any hB0 W (hT.env h) (Nat.le_trans hB h.size) 1099511627776)
  have HRd := hid hR
  have HAr := hid hA
  have hlz : (l.length : Int) ≤ 140737488351232 := by omega
  have HCp := hid hR.cap
  clear hT hR hA
  go_enter Tryd.func4, Tryd.ntmps4
  go_wp2_with fail
  refine (HN.out w (Below.refl _ _)).mono ?_; rintro e w1 ⟨b1, rfl, hh⟩
  obtain ⟨O1, A1, hS1, hA1, hb1⟩ := hh.out
  have HS1 := hid hS1
  have HA1 := hid hA1
  have HW1 := hid hb1
  clear hh hS1 hA1 hb1
  go_wp2_with fail
  refine (HN.out w1 HW1.out).mono ?_; rintro e w2 ⟨b2, rfl, hh⟩
  obtain ⟨O2, A2, hS2, hA2, hb2⟩ := hh.out
  have HP : Hid (∃ O1 A1 O2 A2, Prr B w.heap.size w2 b1 O1 A1 [] b2 O2 A2 []) := ⟨O1, A1, O2, A2, HS1.out.below hb2, hS2, fun k hk => ⟨fun ho => by have := hA2 k (hS2.sub k ho); have := (HS1.out.lt k hk).2; omega, HA1.out k hk⟩, fun k hk => ⟨fun ho => by have := hA2 k hk; have := (HS1.out.lt k (HS1.out.sub k ho)).2; omega, by have := hA2 k hk; have := HW1.out.size; omega⟩⟩
  have HW2 := hid (HW1.out.trans (hb2.mono HW1.out.size))
  clear hh hS2 hA2 hb2 HS1 HA1 HN
  by_cases hbig : 100 < l.length
  · have hbz : 100 < (l.length : Int) := by omega
    go_wp2_with fail
    refine (HAl.out _ HW2.out).mono ?_; rintro e w3 ⟨rfl, hh⟩
    have HW3 := hid (HW2.out.trans (hh.out.mono HW2.out.size))
    clear hh
    go_wp2_with fail
    go_ret
    exact ⟨rfl, HW3.out⟩
  have hbz : (l.length : Int) ≤ 100 := by omega
  have HL1 : Hid (l.length ≤ 100) := by show l.length ≤ 100; omega
  clear hlz hl
  go_wp2_with fail
  go_loopw [34] (fun v34 W => ∃ i : Nat, v34 = .int .i64 i ∧ i ≤ l.length ∧ Hid (∀ a b (hab : a < b) (hb : b < l.length), b < i → l[a].key ≠ l[b].key) ∧ Hid (Below w2.heap.size w2 W)) (fun v34 _ => l.length - (intOf v34).toNat)
  case atStart => exact ⟨0, rfl, Nat.zero_le _, fun a b _ _ h => absurd h (by omega), Below.refl _ _⟩
  case round =>
    obtain ⟨i, rfl, hi, HU, HV⟩ := hrel
    by_cases hlt : i < l.length
    · have hiz : (i : Int) < (l.length : Int) := by omega
      have HWr := hid (HW2.out.trans (HV.out.mono HW2.out.size))
      obtain ⟨g, o, rfl, hgw, hall⟩ := HRd.out.all (by omega)
      have HCl := hid hall
      obtain ⟨z0, z1, z2, z3, z4, z5, z6, z7⟩ := hall wr (HWr.out.block g hgw) i hlt
      have hcapz : (i : Int) ≤ (cp : Int) := by have := HCp.out; omega
      have HUn : Hid ((∀ a (ha : a < l.length), a < i → l[a].key ≠ l[i].key) → ∀ a b (hab : a < b) (hb : b < l.length), b < i + 1 → l[a].key ≠ l[b].key) := fun h a b hab hb hbi => by
        rcases Nat.lt_succ_iff_lt_or_eq.1 hbi with h' | rfl
        · exact HU.out a b hab hb h'
        · exact h a (by omega) hab
      clear hall HU
      generalize l[i] = e at *
      have hba := below_alloc wr (eob e)
      have HB1 := hid (HV.out.trans (hba.mono HV.out.size))
      have HX1 := hid (ent_new wr e)
      have HXz : Hid (wr.heap.size < (wr.alloc (eob e)).heap.size) := by simp [Hid]
      have HWU := hid (HWr.out.trans (hba.mono HWr.out.size))
      clear hba
      go_wp2_with fail
      generalize hU : wr.alloc (eob e) = U at *
      clear hU z0 z1 z2 z3 z4 z5 z6 z7 HV HWr
      generalize wr.heap.size = G6 at *
      go_loopw [43] (fun v43 W => ∃ j : Nat, v43 = .int .i64 j ∧ j ≤ i ∧ Hid (∀ a (ha : a < l.length), a < j → l[a].key ≠ e.key) ∧ Hid (Below U.heap.size U W)) (fun v43 _ => i - (intOf v43).toNat)
      case atStart => exact ⟨0, rfl, Nat.zero_le _, fun a _ h => absurd h (by omega), Below.refl _ _⟩
      case round =>
        obtain ⟨j, rfl, hj, HE, HZ⟩ := hrel
        have HX2 := hid ((HZ.out.block G6 HXz.out).trans HX1.out)
        have HWZ := hid (HWU.out.trans (HZ.out.mono HWU.out.size))
        by_cases hjlt : j < i
        · have hjz : (j : Int) < (i : Int) := by omega
          have hjl : j < l.length := by omega
          obtain ⟨x0, x1, x2, x3, x4, x5, x6, x7⟩ := HCl.out _ (HWZ.out.block g hgw) j hjl
          have HEn : Hid (l[j].key ≠ e.key → ∀ a (ha : a < l.length), a < j + 1 → l[a].key ≠ e.key) := fun h a ha haj => by
            rcases Nat.lt_succ_iff_lt_or_eq.1 haj with h' | rfl
            · exact HE.out a ha h'
            · exact h
          clear HE
          generalize l[j] = y at *
          have hba2 := below_alloc wr (eob y)
          have HWA := hid (HWZ.out.trans (hba2.mono HWZ.out.size))
          have HZA := hid (HZ.out.trans (hba2.mono HZ.out.size))
          have HX3 := hid ((hba2.block G6 (Array.getElem?_eq_some_iff.1 HX2.out).1).trans HX2.out)
          obtain ⟨c0, c1, c2, c3, c4, c5, c6, c7⟩ := ent_facts (ent_new wr y)
          obtain ⟨d0, d1, d2, d3, d4, d5, d6, d7⟩ := ent_facts HX3.out
          clear hba2
          by_cases hk : y.key = e.key
          · have hkb : (y.key == e.key) = true := beq_iff_eq.2 hk
            clear hk HEn
            go_wp2_with fail
            refine (HAl.out _ HWA.out).mono ?_; rintro e' w9 ⟨rfl, hh⟩
            have HW9 := hid (HWA.out.trans (hh.out.mono HWA.out.size))
            clear hh
            go_wp2_with fail
            go_ret
            exact ⟨rfl, HW9.out⟩
          · have hkb : (y.key == e.key) = false := beq_eq_false_iff_ne.2 hk
            have HE2 := hid (HEn.out hk)
            clear hk HEn
            go_wp2_with fail
            exact ⟨⟨j + 1, by go_num, by omega, HE2.out, HZA.out⟩, by simp [intOf]; omega⟩
        · have hjz : ¬ (j : Int) < (i : Int) := by omega
          have HU2 := hid (HUn.out (fun a ha hai => HE.out a ha (by omega)))
          obtain ⟨d0, d1, d2, d3, d4, d5, d6, d7⟩ := ent_facts HX2.out
          have HVn := hid (HB1.out.trans (HZ.out.mono HB1.out.size))
          clear HUn HE
          by_cases hi3 : 300 < e.m.items.length
          · have hi3z : 300 < (e.m.items.length : Int) := by omega
            go_wp2_with fail
            refine (HAl.out _ HWZ.out).mono ?_; rintro e' w9 ⟨rfl, hh⟩
            have HW9 := hid (HWZ.out.trans (hh.out.mono HWZ.out.size))
            clear hh
            go_wp2_with fail
            go_ret
            exact ⟨rfl, HW9.out⟩
          have hi3z : (e.m.items.length : Int) ≤ 300 := by omega
          by_cases hp3 : 300 < e.m.pairs.length
          · have hp3z : 300 < (e.m.pairs.length : Int) := by omega
            go_wp2_with fail
            refine (HAl.out _ HWZ.out).mono ?_; rintro e' w9 ⟨rfl, hh⟩
            have HW9 := hid (HWZ.out.trans (hh.out.mono HWZ.out.size))
            clear hh
            go_wp2_with fail
            go_ret
            exact ⟨rfl, HW9.out⟩
          have hp3z : (e.m.pairs.length : Int) ≤ 300 := by omega
          clear hi3 hp3
          go_wp2_with fail
          exact ⟨⟨i + 1, by go_num, by omega, HU2.out, HVn.out⟩, by simp [intOf]; omega⟩
    · obtain rfl : i = l.length := by omega
      have hiz : ¬ (l.length : Int) < (l.length : Int) := by omega
      have HUl : Hid (Unl l) := fun a b hab hb => HU.out a b hab hb hb
      have HWr := hid (HW2.out.trans (HV.out.mono HW2.out.size))
      have HI0 : Hid (∃ O1 A1 L1 O2 A2 L2, Prr B w.heap.size wr b1 O1 A1 L1 b2 O2 A2 L2 ∧ OrdIs ((l.take 0).map pr8) L1 ∧ OrdIs ((l.reverse.take 0).map pr8) L2) := by
        obtain ⟨O1, A1, O2, A2, h⟩ := HP.out
        exact ⟨O1, A1, [], O2, A2, [], h.below HV.out, ord_nil, ord_nil⟩
      clear HU HP HV
      go_wp2_with fail
      go_loopw [70] (fun v70 W => ∃ i : Nat, v70 = .int .i64 i ∧ i ≤ l.length ∧ Hid (∃ O1 A1 L1 O2 A2 L2, Prr B w.heap.size W b1 O1 A1 L1 b2 O2 A2 L2 ∧ OrdIs ((l.take i).map pr8) L1 ∧ OrdIs ((l.reverse.take i).map pr8) L2) ∧ Hid (Below w.heap.size w W)) (fun v70 _ => l.length - (intOf v70).toNat)
      case atStart => exact ⟨0, rfl, Nat.zero_le _, HI0.out, HWr.out⟩
      case round =>
        obtain ⟨i, rfl, hi, HI, HW⟩ := hrel
        obtain ⟨O1, A1, L1, O2, A2, L2, hPr, hd1, hd2⟩ := HI.out
        clear HI0 HWr
        by_cases hlt : i < l.length
        · have hiz : (i : Int) < (l.length : Int) := by omega
          obtain ⟨k, hk⟩ : ∃ k : Nat, k = l.length - 1 - i := ⟨_, rfl⟩
          have hkl : k < l.length := by omega
          have hkz : (l.length : Int) - 1 - (i : Int) = (k : Int) := by omega
          have hkz2 : (k : Int) < (l.length : Int) := by omega
          obtain ⟨g, o, rfl, hgw, hall⟩ := HRd.out.all (by omega)
          have HCl := hid hall
          obtain ⟨z0, z1, z2, z3, z4, z5, z6, z7⟩ := hall wr (HW.out.block g hgw) i hlt
          have hn1 := ord_take HUl.out HL1.out hlt hd1
          have hrl : l.reverse.length ≤ 100 := by rw [List.length_reverse]; exact HL1.out
          have hn2 := ord_take (unl_rev HUl.out) hrl (i := i) (by rw [List.length_reverse]; exact hlt) hd2
          rw [show l.reverse[i]'(by rw [List.length_reverse]; exact hlt) = l[k] by rw [List.getElem_reverse]; simp only [hk]] at hn2
          have HN1 := hid hn1
          have HN2 := hid hn2
          have HLi : Hid (∀ (W : World) (O A : Nat → Prop), Below w.heap.size w W → (∀ j, O j → A j) → (∀ j, A j → w.heap.size ≤ j) → Lies (Off O) W l[i]) := fun W O A hb h1 h2 => ((HRd.out.lies _ (List.getElem_mem hlt)).below hb).keep (Keep.refl _ _) (fun j hj ho => by have := h2 j (h1 j ho); omega)
          have HLk : Hid (∀ (W : World) (O A : Nat → Prop), Below w.heap.size w W → (∀ j, O j → A j) → (∀ j, A j → w.heap.size ≤ j) → Lies (Off O) W l[k]) := fun W O A hb h1 h2 => ((HRd.out.lies _ (List.getElem_mem hkl)).below hb).keep (Keep.refl _ _) (fun j hj ho => by have := h2 j (h1 j ho); omega)
          have HAi := hid (HAr.out _ (List.getElem_mem hlt))
          have HAk := hid (HAr.out _ (List.getElem_mem hkl))
          have HCk : Hid (∀ (W : World), W.heap[g]? = w.heap[g]? → Cells8 W g o k l[k]) := fun W hW => hall W hW k hkl
          have HPt := hid (sp_put hPr.one l[i] HAi.out (HLi.out wr O1 A1 HW.out hPr.one.sub (fun j hj => (hPr.a1 j hj).2)))
          have HPr := hid hPr
          clear hall hn1 hn2 hrl hPr hd1 hd2 HI hk HCl
          generalize l[i] = e at *
          generalize l[k] = f at *
          go_wp2_with fail
          refine HPt.out.mono ?_; rintro e' w3 ⟨rfl, hh⟩
          obtain ⟨O3, A3, hS3, hst3⟩ := hh.out
          obtain ⟨hP3, hbw3⟩ := HPr.out.turn hS3 hst3 HW.out.size
          have HW3 := hid (HW.out.trans hbw3)
          have HP3 := hid hP3
          have HPt2 := hid (sp_put hP3.two f HAk.out (HLk.out w3 O2 A2 HW3.out hP3.two.sub (fun j hj => (hP3.a2 j hj).2)))
          obtain ⟨y0, y1, y2, y3, y4, y5, y6, y7⟩ := HCk.out w3 (HW3.out.block g hgw)
          clear hh hS3 hst3 hP3 hbw3 z0 z1 z2 z3 z4 z5 z6 z7 HPt
          go_wp2_with fail
          refine HPt2.out.mono ?_; rintro e' w4 ⟨rfl, hh⟩
          obtain ⟨O4, A4, hS4, hst4⟩ := hh.out
          obtain ⟨hP4, hbw4⟩ := HP3.out.swap.turn hS4 hst4 HW3.out.size
          have HW4 := hid (HW3.out.trans hbw4)
          have HI4 : Hid (∃ O1 A1 L1 O2 A2 L2, Prr B w.heap.size w4 b1 O1 A1 L1 b2 O2 A2 L2 ∧ OrdIs ((l.take (i + 1)).map pr8) L1 ∧ OrdIs ((l.reverse.take (i + 1)).map pr8) L2) := ⟨O3, A3, _, O4, A4, _, hP4.swap, HN1.out, HN2.out⟩
          clear hh hS4 hst4 hP4 hbw4 y0 y1 y2 y3 y4 y5 y6 y7
          go_wp2_with fail
          exact ⟨⟨i + 1, by go_num, by omega, HI4.out, HW4.out⟩, by simp [intOf]; omega⟩
        · obtain rfl : i = l.length := by omega
          obtain rfl := ord_end hd1 hd2
          have HPr := hid hPr
          clear hPr hd1 hd2 HI HRd HAr HUl
          go_wp2_with fail
          refine (HAl.out _ HW.out).mono ?_; rintro e' w3 ⟨rfl, hh⟩
          have HW3 := hid (HW.out.trans (hh.out.mono HW.out.size))
          have HP3 := hid (HPr.out.below hh.out)
          clear hh
          go_wp2_with fail
          refine (sp_all HP3.out.one).mono ?_; rintro e' w4 ⟨q4, c4, rfl, hh⟩
          obtain ⟨R4, hR4, hm4, hb4⟩ := hh.out
          have HW4 := hid (HW3.out.trans (hb4.mono HW3.out.size))
          have HP4 := hid (HP3.out.below hb4)
          have HR4 := hid hR4
          have HM4 := hid hm4
          clear hh hR4 hm4 hb4
          go_wp2_with fail
          refine (sp_all HP4.out.two).mono ?_; rintro e' w5 ⟨q5, c5, rfl, hh⟩
          obtain ⟨R5, hR5, hm5, hb5⟩ := hh.out
          have HW5 := hid (HW4.out.trans (hb5.mono HW4.out.size))
          have HP5 := hid (HP4.out.below hb5)
          have hf := HP4.out.one.fine
          have hl4 : R4.length = L1.length := by rw [← HM4.out, List.length_map]
          have hl5 : R5.length = L1.length := by rw [← hm5, List.length_map]
          have hsm := qsame_any _ _ q4 c4 R4 q5 c5 R5 w5 (HR4.out.below hb5) hR5 (by have := hf.len; omega) (ok_of hf HM4.out)
          rw [hl4, hl5, decide_eq_true (HM4.out.trans hm5.symm)] at hsm
          have HSm := hid hsm
          clear hh hR5 hm5 hb5 hf hl4 hl5 hsm
          go_wp2_with fail
          refine HSm.out.mono ?_; rintro e' w6 ⟨rfl, hh⟩
          have HW6 := hid (HW5.out.trans (hh.out.mono HW5.out.size))
          have HP6 := hid (HP5.out.below hh.out)
          clear hh
          go_wp2_with fail
          refine (sp_mem HP6.out.one).mono ?_; rintro e' w7 ⟨rfl, hh⟩
          have HW7 := hid (HW6.out.trans (hh.out.mono HW6.out.size))
          have HP7 := hid (HP6.out.below hh.out)
          clear hh
          go_wp2_with fail
          refine (sp_mem HP7.out.two).mono ?_; rintro e' w8 ⟨rfl, hh⟩
          have HW8 := hid (HW7.out.trans (hh.out.mono HW7.out.size))
          have HP8 := hid (HP7.out.below hh.out)
          clear hh
          go_wp2_with fail
          refine (sp_len HP8.out.one).mono ?_; rintro e' w9 ⟨rfl, hh⟩
          have HW9 := hid (HW8.out.trans (hh.out.mono HW8.out.size))
          have HP9 := hid (HP8.out.below hh.out)
          clear hh
          go_wp2_with fail
          refine (sp_len HP9.out.two).mono ?_; rintro e' w10 ⟨rfl, hh⟩
          have HW10 := hid (HW9.out.trans (hh.out.mono HW9.out.size))
          clear hh
          go_wp2_with fail
          go_ret
          exact ⟨rfl, HW10.out⟩

end Go.Proofs.YtppgifaegnmciaaDoor

namespace Go.Proofs.YtppgifaegnmciaaDoor.keyspaceOrder
open Go.ChangeShapes Go.WideShapes Go.ChangeAt Go.RowKit
open Go.ChangeMaps (open_string shut_string)


theorem own : ownKnob Tryd.prog.godebug = none := by kernel_rfl
theorem laidOut : laidOutB Tryd.prog = true := by kernel_rfl
set_option maxRecDepth 100000 in
theorem contract (H : Type) (enc : TypeId × Value → H) (W : World) (base : Nat) (args : Array Value) (ds gs : List (DataW H)) (before : List MemPlace)
    (hval : ∀ (j : Nat) t v, Tryd.f4.params[j]? = some t → args[j]? = some v → Value.okWide Tryd.prog W .any base t v)
    (hW : DataW.Whole enc Tryd.prog Tryd.f4.params.toList Rows.keyspaceOrderSpec.vars false W args.toList ds gs before) (hsz0 : (DataW.weightsEach Tryd.prog (Tryd.f4.params.toList ++ Rows.keyspaceOrderSpec.plain.varTypes Tryd.prog) (ds ++ gs)).all (· ≤ reachBytes) = true) (hL : laidMetH Tryd.prog listed W) :
    Calls Tryd.prog 4 args W fun e W' => ∃ v, e = .returned v ∧ Rows.keyspaceOrderSpec.post enc Tryd.prog Tryd.f4 false true false false W args v W' := by
  have hW' := hW
  obtain ⟨p, q, hA0, hV, rfl, hfz, hnd⟩ := hW
  have hA : DataW.TrodAll enc Tryd.prog W 0 (fun _ => true) true Tryd.f4.params.toList args.toList ds p := hA0
  have hsz : (DataW.weightsEach Tryd.prog (Tryd.f4.params.toList ++ Rows.keyspaceOrderSpec.plain.varTypes Tryd.prog) (ds ++ gs)).all (· ≤ reachBytes) = true := hsz0
  clear hsz0
  rw [Tryd.params4] at hA hval hsz
  obtain ⟨v0, vs0, d0, ds0, p0, q0, hargs, rfl, rfl, h0, r0⟩ := trodAll_cons hA
  obtain ⟨rfl, rfl, rfl⟩ := trodAll_nil r0
  obtain rfl : args = #[v0] := by cases args; simp_all
  obtain ⟨rfl, rfl⟩ := trodVars_none hV
  obtain ⟨a0, len0, cap0, rfl⟩ := okWide_slice Tryd.underlying39 (hval 0 39 v0 rfl rfl)
  have k0 := h0
  have lt0 : ∀ x ∈ p0, x.block < W.heap.size := by obtain ⟨m, hm⟩ := k0; exact DataW.trod_lt m _ _ _ hm
  obtain ⟨l0, hl0, hs0, ha0, hn0⟩ : ∃ l : List E8, l.length = len0 ∧ Rde (fun j => j < W.heap.size) W a0 cap0 l ∧ (∀ x ∈ l, Arg8 x) ∧ l.length ≤ 140737488351232 := by
    obtain ⟨m, hm⟩ := h0
    exact open_ents hm (fun n hn => by
      have h : decide (n ≤ reachBytes) = true := List.all_eq_true.1 hsz _ (DataW.weights_mem_each (j := 0) (t := 39) (d := d0) rfl rfl _ hn)
      have h' := of_decide_eq_true h
      simpa [reachBytes] using h')
  subst hl0
  clear hA0
  have hT := env_of hL
  refine (order_any (tab_lt hT) W hT (Nat.le_refl _) a0 l0 cap0  hs0 ha0 hn0).mono fun e W' ⟨he, bel⟩ => ?_
  subst he
  exact ⟨_, rfl, _, _, _, [], _, [], hW', trodAll_mk1 (shut_bool Tryd.underlying4 _), (trodAll_cons_mk (Below.trod laidOut (by kernel_rfl) (of_decide_eq_true (by kernel_rfl)) k0 bel lt0) trodAll_mk0), rfl, bel.frame _, fun h => by cases h⟩
theorem reads (os : Os) {H : Type} (enc : TypeId × Value → H) : ∃ places, DataW.whole enc Tryd.prog ((laidWorld Tryd.prog os).forCall (fun _ _ => 0) ⟨#[], #[.slice none 0 0], []⟩).memory Tryd.f4.params.toList Rows.keyspaceOrderSpec.vars false (#[.slice none 0 0] : Array Value).toList 8 = some ([.nil], [], places) :=
  ⟨[], by kernel_rfl⟩

set_option maxRecDepth 100000 in
theorem lifted (os : Os) (started : os.Started) (H : Type) (enc : TypeId × Value → H) (F : Stop.Interp) :
    ReturnsInHanded {} Tryd.checked os 4 .any ((OpenSpec.ofChange Rows.keyspaceOrderSpec).preRow enc Tryd.prog Tryd.f4 Rows.keyspaceOrderRow.domain false Rows.keyspaceOrderRow.laid) (((OpenSpec.ofChange Rows.keyspaceOrderSpec).at F).post enc Tryd.prog Tryd.f4 false true false false) := by
  obtain ⟨places, hx⟩ := reads os enc
  refine returnsInHanded_of_row (C := Tryd.checked) (s := OpenSpec.ofChange Rows.keyspaceOrderSpec) own started (by kernel_rfl) Tryd.func4
    (witness_row_at (enc := enc) (C := Tryd.checked) false (laidWorld Tryd.prog os) #[.slice none 0 0] rfl (by kernel_rfl) (by kernel_rfl) (by kernel_rfl)
      (OpenSpec.preRow_of_cond 8 hx (by kernel_rfl) (fun k hk => by cases hk) (by kernel_rfl) (laid_met os _))) ?_
  intro W base args ds gs before hval hW _ hcond hsz hL _ _
  exact contract H enc W base args ds gs before hval hW hsz hL

theorem said : Rows.KeyspaceOrderSaid :=
  OpenClaim.holds_of_cond 4 Tryd.f4 rfl rfl rfl rfl rfl rfl rfl ⟨rfl, rfl, rfl, rfl, rfl⟩ rfl rfl rfl rfl rfl (by kernel_rfl) Tryd.func4 (by kernel_rfl)
    (of_decide_eq_true (by kernel_rfl)) (by unfold Func.isWrapper; first | (rw [if_pos (by decide +kernel)]; kernel_rfl) | (rw [if_neg (by decide +kernel)]; exact ⟨rfl, rfl⟩))
    (fun os started H enc _ F => by rw [OpenClaim.pre_eq_preRow]; exact lifted os started H enc F)

theorem plain (f : FuncId) (fn : Func) (hf : Tryd.pinned.checked.prog.funcNamed "marshalyard/marshalyardlaw11.KeyspaceOrder" = some f) (hfn : Tryd.pinned.checked.prog.funcs[f]? = some fn) :
    false = Tryd.pinned.checked.prog.looks [] ∧ ∀ (j : Nat) t, fn.params[j]? = some t → Tryd.pinned.checked.prog.wantsStandIn t = false := by
  obtain rfl : f = 4 := Option.some.inj ((show Tryd.prog.funcNamed "marshalyard/marshalyardlaw11.KeyspaceOrder" = some 4 by kernel_rfl).symm.trans hf) |>.symm
  obtain rfl : fn = Tryd.f4 := (Option.some.inj (Tryd.func4.symm.trans hfn)).symm
  refine ⟨by kernel_rfl, fun j t ht => ?_⟩
  rw [Tryd.params4] at ht
  have hm : t = 39 := by simpa using Array.mem_of_getElem? ht
  rcases hm with rfl
  · exact (show Tryd.prog.wantsStandIn 39 = false by kernel_rfl)

end Go.Proofs.YtppgifaegnmciaaDoor.keyspaceOrder
namespace Go.Proofs.YtppgifaegnmciaaDoor
open Go
/-- THE CARD -/
theorem keyspaceOrder_card : Rows.KeyspaceOrderCardSaid :=
  Claim7.holds_tied_plain_at .later [] _ _ _ _ keyspaceOrder.said (fun _ h => by cases h) (by kernel_rfl) (fun _ h => by cases h) keyspaceOrder_row_tie rfl ⟨rfl, rfl⟩ (by kernel_rfl) rfl keyspaceOrder.plain (by kernel_rfl)
#print axioms keyspaceOrder_card
end Go.Proofs.YtppgifaegnmciaaDoor
