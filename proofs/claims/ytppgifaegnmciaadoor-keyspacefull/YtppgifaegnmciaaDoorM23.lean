/- RefMem, RefSame, RefOf, RefKeys. -/
import Derived.Deep.RegionHeld3
import Derived.Test.YtppgifaegnmciaaDoorM08
import Derived.Test.YtppgifaegnmciaaDoorM20
import Derived.Test.YtppgifaegnmciaaDoorM07
import Derived.Test.YtppgifaegnmciaaDoorM13
namespace Go.Proofs.YtppgifaegnmciaaDoor
open Go.RowKit

/-- how much an entry takes -/
noncomputable def tk (x : E8) : Nat := 16 + x.key.length + (dumpS x.m).length
noncomputable def memR (R : List E8) : Nat := (R.map tk).sum
theorem memR_take {R : List E8} {i : Nat} (h : i < R.length) : memR (R.take (i + 1)) = memR (R.take i) + tk R[i] := by
  unfold memR
  rw [List.take_succ_eq_append_getElem h, List.map_append, List.sum_append]
  simp
/-- an entry that is not too great to be walked -/
structure Ok8 (x : E8) : Prop where
  key : x.key.length ≤ 140737488351232
  m : Short x.m
theorem tk_le {x : E8} (h : Ok8 x) : tk x ≤ 140737489351300 := by
  have h1 := h.key
  have h2 := dumpS_max x.m
  unfold tk
  omega
theorem memR_le {R : List E8} (h : ∀ x ∈ R, Ok8 x) : ∀ i, i ≤ R.length → memR (R.take i) ≤ 140737489351300 * i
  | 0, _ => by simp [memR]
  | i + 1, hi => by
    have ih := memR_le h i (by omega)
    rw [memR_take (by omega)]
    have := tk_le (h _ (List.getElem_mem (show i < R.length by omega)))
    omega
/-- none -/
def zero8 : E8 := ⟨[], zeroV, none, 0, none, 0, 0⟩
def getR (k : Nm) (R : List E8) : Option E8 := R.find? fun x => x.key == k
theorem getR_some {k : Nm} {R : List E8} {i : Nat} (h : i < R.length) (hn : ∀ x ∈ R.take i, x.key ≠ k) (hk : R[i].key = k) : getR k R = some R[i] := by
  have e : R = R.take i ++ R[i] :: R.drop (i + 1) := by rw [← List.drop_eq_getElem_cons h, List.take_append_drop]
  unfold getR
  generalize hx : R[i] = x at *
  rw [e, List.find?_append, List.find?_eq_none.2 (fun y hy => by simpa using hn y hy)]
  simp [hk]
theorem getR_none {k : Nm} {R : List E8} (hn : ∀ x ∈ R, x.key ≠ k) : getR k R = none := List.find?_eq_none.2 (fun y hy => by simpa using hn y hy)
end Go.Proofs.YtppgifaegnmciaaDoor

namespace Go.Proofs.YtppgifaegnmciaaDoor
open Go.RowKit

/-- what of an entry counts -/
abbrev pr8 (x : E8) : Nm × Vl × Int := (x.key, x.m, x.ends)
set_option maxHeartbeats 4000000 in
set_option maxRecDepth 100000 in
/-- ref SameEntry -/
theorem qse_any (x y : E8) (w : World) (hx : VI w x.m x.pp x.pc x.ip x.ic) (hy : VI w y.m y.pp y.pc y.ip y.ic) (hl : x.m.pairs.length ≤ 140737488351232) (hli : x.m.items.length ≤ 140737488351232) :
    Calls Tryd.prog 24 #[ev x, ev y] w fun e w' => e = .returned (.bool (decide (pr8 x = pr8 y))) ∧ Hid (Below w.heap.size w w') := by
  have HA := hid (al_two w (eob x) (eob y))
  obtain ⟨a0, a1, a2, a3, a4, a5, a6, a7⟩ := ent_facts HA.out.2.1
  obtain ⟨b0, b1, b2, b3, b4, b5, b6, b7⟩ := ent_facts HA.out.2.2.1
  have HS := hid (rsame_any x.m y.m x.pp x.pc x.ip x.ic y.pp y.pc y.ip y.ic _ (hx.below HA.out.1) (hy.below HA.out.1) hl hli)
  obtain ⟨V, hV⟩ : ∃ V, V = decide (pr8 x = pr8 y) := ⟨_, rfl⟩
  rw [← hV]
  have HV : Hid (V = true ↔ x.key = y.key ∧ x.m = y.m ∧ x.ends = y.ends) := by rw [Hid, hV, decide_eq_true_iff]; simp
  clear hx hy hl hli hV
  by_cases hk : x.key = y.key
  · have hkb : (x.key == y.key) = true := beq_iff_eq.2 hk
    by_cases he : x.ends = y.ends
    · have heb : (x.ends == y.ends) = true := beq_iff_eq.2 he
      have hVV : V = decide (x.m = y.m) := by
        rw [Bool.eq_iff_iff, HV.out, decide_eq_true_iff]
        exact ⟨fun h => h.2.1, fun h => ⟨hk, h, he⟩⟩
      rw [← hVV] at HS
      clear hk he hVV
      go_enter Tryd.func24, Tryd.ntmps24
      go_wp2_with fail
      refine HS.out.mono ?_; rintro e w1 ⟨rfl, hh⟩
      have HW1 := hid (HA.out.1.trans (hh.out.mono HA.out.1.size))
      clear hh
      go_wp2_with fail
      go_ret
      exact ⟨rfl, HW1.out⟩
    · have heb : (x.ends == y.ends) = false := beq_eq_false_iff_ne.2 he
      obtain rfl : V = false := by
        cases V with
        | false => rfl
        | true => exact absurd (HV.out.1 rfl).2.2 he
      clear hk he
      go_enter Tryd.func24, Tryd.ntmps24
      go_wp2_with fail
      go_ret
      exact ⟨rfl, HA.out.1⟩
  · have hkb : (x.key == y.key) = false := beq_eq_false_iff_ne.2 hk
    obtain rfl : V = false := by
      cases V with
      | false => rfl
      | true => exact absurd (HV.out.1 rfl).1 hk
    clear hk
    go_enter Tryd.func24, Tryd.ntmps24
    go_wp2_with fail
    go_ret
    exact ⟨rfl, HA.out.1⟩
set_option maxHeartbeats 4000000 in
set_option maxRecDepth 100000 in
/-- ref Same -/
theorem qsame_any (P Q : Nat → Prop) (p1 : Option Addr) (c1 : Nat) (R : List E8) (p2 : Option Addr) (c2 : Nat) (S : List E8) (w : World) (h1 : Rde P w p1 c1 R) (h2 : Rde Q w p2 c2 S) (hl : R.length ≤ 10000) (hok : ∀ x ∈ R, Ok8 x) :
    Calls Tryd.prog 9 #[.slice p1 R.length c1, .slice p2 S.length c2] w fun e w' => e = .returned (.bool (decide (R.map pr8 = S.map pr8))) ∧ Hid (Below w.heap.size w w') := by
  obtain ⟨V, hV⟩ : ∃ V, V = decide (R.map pr8 = S.map pr8) := ⟨_, rfl⟩
  rw [← hV]
  have HV := hid hV
  have H1 := hid h1
  have H2 := hid h2
  have HK := hid hok
  have hlz : (R.length : Int) ≤ 10000 := by omega
  clear hV h1 h2 hok
  by_cases hlen : R.length = S.length
  · have HL := hid hlen
    rw [← hlen]
    have hne : ((R.length : Int) != (R.length : Int)) = false := by simp
    clear hlen
    go_enter Tryd.func9, Tryd.ntmps9
    go_wp2_with fail
    go_loopw [5] (fun v5 W => ∃ j : Nat, v5 = .int .i64 j ∧ j ≤ R.length ∧ Hid ((R.drop j).map pr8 = (S.drop j).map pr8 ↔ R.map pr8 = S.map pr8) ∧ Hid (Below w.heap.size w W)) (fun v5 _ => R.length - (intOf v5).toNat)
    case atStart => exact ⟨0, rfl, Nat.zero_le _, by simp [Hid], Below.refl _ _⟩
    case round =>
      obtain ⟨j, rfl, hj, HD, HW⟩ := hrel
      by_cases hlt : j < R.length
      · have hlt2 : j < S.length := by have := HL.out; omega
        have hjz : (j : Int) < (R.length : Int) := by omega
        have hR := H1.out.below HW.out
        have hS := H2.out.below HW.out
        obtain ⟨g1, o1, hp1, -, hb1, x0, x1, x2, x3, x4, x5, x6, x7⟩ := hR.facts j hlt
        obtain ⟨g2, o2, hp2, -, hb2, y0, y1, y2, y3, y4, y5, y6, y7⟩ := hS.facts j hlt2
        have HS1 := hid (drop_step hlt)
        have HS2 := hid (drop_step hlt2)
        have hsh := (HK.out _ (List.getElem_mem hlt)).m
        have HWe : Hid (Below w.heap.size w wr.drew) := HW.out.drew
        have HE := hid (qse_any R[j] S[j] wr.drew ((hR.lies _ (List.getElem_mem hlt)).vi.below ((Below.refl _ _).drew)) ((hS.lies _ (List.getElem_mem hlt2)).vi.below ((Below.refl _ _).drew)) (by have := hsh.pairs; omega) (by have := hsh.items; omega))
        clear hsh hR hS
        generalize R[j] = x at *
        generalize S[j] = y at *
        subst hp1 hp2
        by_cases hxy : pr8 x = pr8 y
        · rw [decide_eq_true hxy] at HE
          have HD2 : Hid ((R.drop (j + 1)).map pr8 = (S.drop (j + 1)).map pr8 ↔ R.map pr8 = S.map pr8) := by
            have := HD.out
            rw [HS1.out, HS2.out, List.map_cons, List.map_cons] at this
            exact ⟨fun h => this.1 (by rw [h, hxy]), fun h => (List.cons.inj (this.2 h)).2⟩
          clear hxy
          go_wp2_with fail
          go_region_held3 (fun w' => w'.cell? ⟨g1, o1 + j * 8, none⟩ = some (txt x.key) ∧ w'.cell? ⟨g1, o1 + j * 8 + 1, none⟩ = some (.int .i64 x.m.kind) ∧ w'.cell? ⟨g1, o1 + j * 8 + 2, none⟩ = some (txt x.m.text) ∧ w'.cell? ⟨g1, o1 + j * 8 + 3, none⟩ = some (.slice x.pp x.m.pairs.length x.pc) ∧ w'.cell? ⟨g1, o1 + j * 8 + 4, none⟩ = some (.slice x.ip x.m.items.length x.ic) ∧ w'.cell? ⟨g1, o1 + j * 8 + 5, none⟩ = some (.int .i64 x.m.px) ∧ w'.cell? ⟨g1, o1 + j * 8 + 6, none⟩ = some (.int .i64 x.m.py) ∧ w'.cell? ⟨g1, o1 + j * 8 + 7, none⟩ = some (.int .i64 x.ends) ∧ w'.cell? ⟨g2, o2 + j * 8, none⟩ = some (txt y.key) ∧ w'.cell? ⟨g2, o2 + j * 8 + 1, none⟩ = some (.int .i64 y.m.kind) ∧ w'.cell? ⟨g2, o2 + j * 8 + 2, none⟩ = some (txt y.m.text) ∧ w'.cell? ⟨g2, o2 + j * 8 + 3, none⟩ = some (.slice y.pp y.m.pairs.length y.pc) ∧ w'.cell? ⟨g2, o2 + j * 8 + 4, none⟩ = some (.slice y.ip y.m.items.length y.ic) ∧ w'.cell? ⟨g2, o2 + j * 8 + 5, none⟩ = some (.int .i64 y.m.px) ∧ w'.cell? ⟨g2, o2 + j * 8 + 6, none⟩ = some (.int .i64 y.m.py) ∧ w'.cell? ⟨g2, o2 + j * 8 + 7, none⟩ = some (.int .i64 y.ends))
            (first | exact ⟨x0, x1, x2, x3, x4, x5, x6, x7, y0, y1, y2, y3, y4, y5, y6, y7⟩ | exact ⟨d0, d1, d2, d3, d4, d5, d6, d7, e0, e1, e2, e3, e4, e5, e6, e7⟩ | go_keep)
            (first
              | (go_at_call 24; refine HE.out.mono ?_; rintro e w1 ⟨rfl, hh⟩; have HW1 := hid (HWe.out.trans (hh.out.mono HWe.out.size)); have q1 : w1.heap[g1]? = wr.heap[g1]? := hh.out.block g1 hb1; have q2 : w1.heap[g2]? = wr.heap[g2]? := hh.out.block g2 hb2; have d0 := cell_turn x0 q1; have d1 := cell_turn x1 q1; have d2 := cell_turn x2 q1; have d3 := cell_turn x3 q1; have d4 := cell_turn x4 q1; have d5 := cell_turn x5 q1; have d6 := cell_turn x6 q1; have d7 := cell_turn x7 q1; have e0 := cell_turn y0 q2; have e1 := cell_turn y1 q2; have e2 := cell_turn y2 q2; have e3 := cell_turn y3 q2; have e4 := cell_turn y4 q2; have e5 := cell_turn y5 q2; have e6 := cell_turn y6 q2; have e7 := cell_turn y7 q2; clear hh))
          all_goals go_wp2_with fail
          all_goals exact ⟨⟨j + 1, by go_num, by omega, HD2.out, HW1.out⟩, by simp [intOf]; omega⟩
        · rw [decide_eq_false hxy] at HE
          have HT : Hid (V = false) := by
            rw [Hid, HV.out, decide_eq_false_iff_not]
            intro e
            have := HD.out.2 e
            rw [HS1.out, HS2.out, List.map_cons, List.map_cons] at this
            exact hxy (List.cons.inj this).1
          obtain rfl := HT.out
          clear hxy
          go_wp2_with fail
          go_region_held3 (fun w' => w'.cell? ⟨g1, o1 + j * 8, none⟩ = some (txt x.key) ∧ w'.cell? ⟨g1, o1 + j * 8 + 1, none⟩ = some (.int .i64 x.m.kind) ∧ w'.cell? ⟨g1, o1 + j * 8 + 2, none⟩ = some (txt x.m.text) ∧ w'.cell? ⟨g1, o1 + j * 8 + 3, none⟩ = some (.slice x.pp x.m.pairs.length x.pc) ∧ w'.cell? ⟨g1, o1 + j * 8 + 4, none⟩ = some (.slice x.ip x.m.items.length x.ic) ∧ w'.cell? ⟨g1, o1 + j * 8 + 5, none⟩ = some (.int .i64 x.m.px) ∧ w'.cell? ⟨g1, o1 + j * 8 + 6, none⟩ = some (.int .i64 x.m.py) ∧ w'.cell? ⟨g1, o1 + j * 8 + 7, none⟩ = some (.int .i64 x.ends) ∧ w'.cell? ⟨g2, o2 + j * 8, none⟩ = some (txt y.key) ∧ w'.cell? ⟨g2, o2 + j * 8 + 1, none⟩ = some (.int .i64 y.m.kind) ∧ w'.cell? ⟨g2, o2 + j * 8 + 2, none⟩ = some (txt y.m.text) ∧ w'.cell? ⟨g2, o2 + j * 8 + 3, none⟩ = some (.slice y.pp y.m.pairs.length y.pc) ∧ w'.cell? ⟨g2, o2 + j * 8 + 4, none⟩ = some (.slice y.ip y.m.items.length y.ic) ∧ w'.cell? ⟨g2, o2 + j * 8 + 5, none⟩ = some (.int .i64 y.m.px) ∧ w'.cell? ⟨g2, o2 + j * 8 + 6, none⟩ = some (.int .i64 y.m.py) ∧ w'.cell? ⟨g2, o2 + j * 8 + 7, none⟩ = some (.int .i64 y.ends))
            (first | exact ⟨x0, x1, x2, x3, x4, x5, x6, x7, y0, y1, y2, y3, y4, y5, y6, y7⟩ | exact ⟨d0, d1, d2, d3, d4, d5, d6, d7, e0, e1, e2, e3, e4, e5, e6, e7⟩ | go_keep)
            (first
              | (go_at_call 24; refine HE.out.mono ?_; rintro e w1 ⟨rfl, hh⟩; have HW1 := hid (HWe.out.trans (hh.out.mono HWe.out.size)); have q1 : w1.heap[g1]? = wr.heap[g1]? := hh.out.block g1 hb1; have q2 : w1.heap[g2]? = wr.heap[g2]? := hh.out.block g2 hb2; have d0 := cell_turn x0 q1; have d1 := cell_turn x1 q1; have d2 := cell_turn x2 q1; have d3 := cell_turn x3 q1; have d4 := cell_turn x4 q1; have d5 := cell_turn x5 q1; have d6 := cell_turn x6 q1; have d7 := cell_turn x7 q1; have e0 := cell_turn y0 q2; have e1 := cell_turn y1 q2; have e2 := cell_turn y2 q2; have e3 := cell_turn y3 q2; have e4 := cell_turn y4 q2; have e5 := cell_turn y5 q2; have e6 := cell_turn y6 q2; have e7 := cell_turn y7 q2; clear hh))
          all_goals go_wp2_with fail
          all_goals go_ret
          all_goals exact ⟨rfl, HW1.out⟩
      · have hge : (R.length : Int) ≤ (j : Int) := by omega
        have HT : Hid (V = true) := by
          rw [Hid, HV.out, decide_eq_true_iff]
          exact HD.out.1 (by rw [List.drop_of_length_le (by omega), List.drop_of_length_le (by have := HL.out; omega)])
        obtain rfl := HT.out
        clear hne
        go_wp2_with fail
        go_ret
        exact ⟨rfl, HW.out⟩
  · have HT : Hid (V = false) := by
      rw [Hid, HV.out, decide_eq_false_iff_not]
      exact fun e => hlen (by have := congrArg List.length e; simpa using this)
    obtain rfl := HT.out
    have hne : ((R.length : Int) != (S.length : Int)) = true := by simp; omega
    have hne2 : ¬ (R.length : Int) = (S.length : Int) := by omega
    go_enter Tryd.func9, Tryd.ntmps9
    go_wp2_with fail
    go_ret
    exact ⟨rfl, Below.refl _ _⟩

end Go.Proofs.YtppgifaegnmciaaDoor

namespace Go.Proofs.YtppgifaegnmciaaDoor
open Go.RowKit

namespace Slot
/-- around the first c -/
def cut (c : UInt8) : List UInt8 → List UInt8 × List UInt8 × Bool
  | [] => ([], [], false)
  | b :: l => if b = c then ([], l, true) else (b :: (cut c l).1, (cut c l).2.1, (cut c l).2.2)
theorem cut_hit {c : UInt8} : ∀ {p r : List UInt8}, c ∉ p → cut c (p ++ c :: r) = (p, r, true)
  | [], r, _ => by simp [cut]
  | b :: p, r, h => by
    have hb : ¬ b = c := fun e => h (by simp [e])
    have := cut_hit (c := c) (p := p) (r := r) (fun m => h (List.mem_cons_of_mem _ m))
    simp [cut, hb, this]
theorem cut_miss {c : UInt8} : ∀ {l : List UInt8}, c ∉ l → cut c l = (l, [], false)
  | [], _ => rfl
  | b :: l, h => by
    have hb : ¬ b = c := fun e => h (by simp [e])
    have := cut_miss (c := c) (l := l) (fun m => h (List.mem_cons_of_mem _ m))
    simp [cut, hb, this]
theorem cut_cases (c : UInt8) : ∀ l : List UInt8, (∃ p r, l = p ++ c :: r ∧ c ∉ p) ∨ c ∉ l
  | [] => Or.inr (by simp)
  | b :: l => by
    by_cases hb : b = c
    · subst hb; exact Or.inl ⟨[], l, rfl, by simp⟩
    · rcases cut_cases c l with ⟨p, r, rfl, h⟩ | h
      · exact Or.inl ⟨b :: p, r, rfl, by simp [h, Ne.symm hb]⟩
      · exact Or.inr (by simp [h, Ne.symm hb])
/-- what of a key counts -/
def tag (key : List UInt8) : List UInt8 :=
  if (cut 123 key).2.2 = false then key
  else if (cut 125 (cut 123 key).2.1).2.2 = false ∨ (cut 125 (cut 123 key).2.1).1 = [] then key
  else (cut 125 (cut 123 key).2.1).1
theorem tag_plain {key : List UInt8} (h : (123 : UInt8) ∉ key) : tag key = key := by
  unfold tag; rw [cut_miss h]; simp
theorem tag_open {a b : List UInt8} (h : (123 : UInt8) ∉ a) (h2 : (125 : UInt8) ∉ b) : tag (a ++ 123 :: b) = a ++ 123 :: b := by
  unfold tag; rw [cut_hit h]; simp [cut_miss h2]
theorem tag_empty {a r : List UInt8} (h : (123 : UInt8) ∉ a) : tag (a ++ 123 :: 125 :: r) = a ++ 123 :: 125 :: r := by
  unfold tag; rw [cut_hit h]; simp [cut]
theorem tag_in {a t r : List UInt8} (h : (123 : UInt8) ∉ a) (h2 : (125 : UInt8) ∉ t) (h3 : t ≠ []) : tag (a ++ 123 :: (t ++ 125 :: r)) = t := by
  unfold tag; rw [cut_hit h]; simp [cut_hit h2, h3]
theorem tag_length (key : List UInt8) : (tag key).length ≤ key.length := by
  rcases cut_cases 123 key with ⟨a, b, rfl, h⟩ | h
  · rcases cut_cases 125 b with ⟨t, r, rfl, h2⟩ | h2
    · by_cases h3 : t = []
      · subst h3; rw [List.nil_append, tag_empty h]; exact Nat.le_refl _
      · rw [tag_in h h2 h3]; simp; omega
    · rw [tag_open h h2]; exact Nat.le_refl _
  · rw [tag_plain h]; exact Nat.le_refl _

end Slot
open Slot
theorem ret_str {a b : List UInt8} (h : a = b) : Ending.returned (.string ⟨a.toArray⟩) = .returned (.string ⟨b.toArray⟩) := by rw [h]
def slotOf (l : List UInt8) : Nat := sumN (tag l) % 16384
theorem mid_txt (s : Nm) (a b : Nat) (x y : Int) (hx : x = (a : Int)) (hy : y = (b : Int)) (h1 : a ≤ b) (h2 : b ≤ s.length) (W : World) :
    (Instr.slice 9 (.string ⟨s.toArray⟩) (some (.int .i64 x)) (some (.int .i64 y)) none).run Tryd.prog W = .ok (txt ((s.take b).drop a)) W := by
  have := run_slice_string (P := Tryd.prog) W 9 ⟨s.toArray⟩ .i64 .i64 x y Tryd.underlying9 (by omega) (by omega) (by simp [ByteArray.size]; omega)
  rw [show x.toNat = a by omega, show y.toNat = b by omega] at this
  have e : (⟨s.toArray⟩ : ByteArray).extract a b = ⟨((s.take b).drop a).toArray⟩ := by
    rw [List.drop_take]
    apply ByteArray.ext
    simp [ByteArray.data_extract]
  rw [this, e]
theorem not_mem_take {c : UInt8} {l : List UInt8} {k : Nat} (h : k < l.length) (h1 : c ∉ l.take k) (h2 : l[k] ≠ c) : c ∉ l.take (k + 1) := by
  rw [List.take_succ_eq_append_getElem h]
  intro m
  rcases List.mem_append.1 m with m | m
  · exact h1 m
  · exact h2 (List.mem_singleton.1 m).symm
theorem split_at {l : List UInt8} {k : Nat} (h : k < l.length) : l = l.take k ++ l[k] :: l.drop (k + 1) := by
  rw [← List.drop_eq_getElem_cons h, List.take_append_drop]

theorem byte_is {l : List UInt8} {n : Nat} (h : n < l.length) (c : UInt8) (z : Int) (hz : (c.toNat : Int) = z) : ((((⟨l.toArray⟩ : ByteArray)[n]'(by simpa [ByteArray.size] using h)).toNat : Int) == z) = decide (l[n] = c) := by
  subst hz
  have e : ((⟨l.toArray⟩ : ByteArray)[n]'(by simpa [ByteArray.size] using h)) = l[n] := rfl
  rw [e]
  by_cases hc : l[n] = c
  · simp [hc]
  · rw [decide_eq_false hc, beq_eq_false_iff_ne]
    intro h2
    exact hc (UInt8.toNat_inj.1 (by omega))
end Go.Proofs.YtppgifaegnmciaaDoor

namespace Go.Proofs.YtppgifaegnmciaaDoor
open Go.RowKit

/-- the keys of a slot -/
def slotK (n : Int) (R : List E8) : List Nm := (R.filter fun x => (slotOf x.key : Int) == n).map (·.key)
theorem slotK_take {n : Int} {R : List E8} {i : Nat} (h : i < R.length) : slotK n (R.take (i + 1)) = slotK n (R.take i) ++ (if (slotOf R[i].key : Int) = n then [R[i].key] else []) := by
  unfold slotK
  rw [filter_take h, List.map_append]
  congr 1
  by_cases hf : (slotOf R[i].key : Int) = n
  · rw [if_pos hf, if_pos (beq_iff_eq.2 hf)]; rfl
  · rw [if_neg hf, if_neg (by simpa using hf)]; rfl
def keysR (n most : Int) (R : List E8) : List Nm := (slotK n R).take most.toNat
theorem slotK_pre (n : Int) (R : List E8) (i : Nat) : ∃ t, slotK n R = slotK n (R.take i) ++ t := by
  refine ⟨slotK n (R.drop i), ?_⟩
  unfold slotK
  rw [← List.map_append, ← List.filter_append, List.take_append_drop]
theorem keysR_full {n most : Int} {R : List E8} {i : Nat} (h : ((slotK n (R.take i)).length : Int) ≤ most ∨ slotK n (R.take i) = []) (hm : most ≤ ((slotK n (R.take i)).length : Int)) : keysR n most R = slotK n (R.take i) := by
  obtain ⟨t, e⟩ := slotK_pre n R i
  unfold keysR
  rw [e]
  rcases h with h | h
  · rw [show most.toNat = (slotK n (R.take i)).length by omega, List.take_left]
  · rw [h] at hm ⊢
    rw [show most.toNat = 0 by simp at hm; omega]
    rfl
theorem keysR_all {n most : Int} {R : List E8} (h : ((slotK n R).length : Int) ≤ most ∨ slotK n R = []) : keysR n most R = slotK n R := by
  unfold keysR
  rcases h with h | h
  · rw [List.take_of_length_le (by omega)]
  · rw [h]; simp
theorem slotK_len (n : Int) (R : List E8) (i : Nat) : (slotK n (R.take i)).length ≤ i := by
  unfold slotK
  rw [List.length_map]
  exact Nat.le_trans (List.length_filter_le _ _) (by simp; omega)
end Go.Proofs.YtppgifaegnmciaaDoor
