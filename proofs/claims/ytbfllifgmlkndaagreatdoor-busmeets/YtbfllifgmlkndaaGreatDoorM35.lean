/- VpC, VpD, VpE, VpT2. -/
import Derived.Deep.RegionLaw
import Derived.Test.YtbfllifgmlkndaaGreatDoorM19
import Derived.Test.YtbfllifgmlkndaaGreatDoorM29
import Derived.Test.YtbfllifgmlkndaaGreatDoorM17
import Derived.Test.YtbfllifgmlkndaaGreatDoorM30
namespace Go.Proofs.YtbfllifgmlkndaaGreatDoor
open Go.RowKit
open Slot

/-- the ranges of the slots below n -/
structure Gd (S : Nat → Bool) (n : Nat) (L : List (Nat × Nat)) : Prop where
  val : ∀ p ∈ L, p.1 ≤ p.2 ∧ p.2 < n
  mem : ∀ t, t < n → ofList L t = S t
theorem Gd.out {S : Nat → Bool} {n : Nat} {L : List (Nat × Nat)} (h : Gd S n L) {t : Nat} (ht : n ≤ t) : ofList L t = false := by
  unfold ofList
  rw [List.any_eq_false]
  intro p hp
  have := h.val p hp
  simp; omega
theorem Gd.no {S : Nat → Bool} {n : Nat} {L : List (Nat × Nat)} (h : Gd S n L) (hs : S n = false) : Gd S (n + 1) L :=
  ⟨fun p hp => by have := h.val p hp; omega, fun t ht => by
    by_cases e : t = n
    · subst e; rw [h.out (Nat.le_refl _), hs]
    · exact h.mem t (by omega)⟩
theorem Gd.push {S : Nat → Bool} {n : Nat} {L : List (Nat × Nat)} (h : Gd S n L) (hs : S n = true) : Gd S (n + 1) (L ++ [(n, n)]) :=
  ⟨fun p hp => by
    rcases List.mem_append.1 hp with hp | hp
    · have := h.val p hp; omega
    · rw [List.mem_singleton.1 hp]; exact ⟨Nat.le_refl _, Nat.lt_succ_self _⟩, fun t ht => by
    rw [ofList_snoc]
    unfold put
    by_cases e : t = n
    · subst e; rw [if_pos ⟨Nat.le_refl _, Nat.le_refl _⟩, hs]
    · rw [if_neg (by omega)]; exact h.mem t (by omega)⟩
theorem Gd.more {S : Nat → Bool} {n f t : Nat} {L : List (Nat × Nat)} (h : Gd S n (L ++ [(f, t)])) (hs : S n = true) (ht : t + 1 = n) : Gd S (n + 1) (L ++ [(f, n)]) := by
  have hf := h.val (f, t) (by simp)
  refine ⟨fun p hp => ?_, fun x hx => ?_⟩
  · rcases List.mem_append.1 hp with hp | hp
    · have := h.val p (List.mem_append_left _ hp); omega
    · rw [List.mem_singleton.1 hp]; exact ⟨by show f ≤ n; omega, Nat.lt_succ_self _⟩
  · have hm := fun y hy => h.mem y hy
    rw [ofList_snoc]
    simp only [ofList_snoc] at hm
    unfold put at hm ⊢
    by_cases e : x = n
    · subst e; rw [if_pos ⟨by omega, Nat.le_refl _⟩, hs]
    · have := hm x (by omega)
      by_cases c : f ≤ x
      · rw [if_pos ⟨c, by omega⟩] at this
        rw [if_pos ⟨c, by omega⟩]; exact this
      · rw [if_neg (by omega)] at this
        rw [if_neg (by omega)]; exact this
/-- what Claims' closure has captured -/
structure Cap (w : World) (a c b : Nat) (v : Vw) (m : Nat) : Prop where
  vb : VB w b v
  pv : w.cell? ⟨a, 0, none⟩ = some (.pointer (some ⟨b, 0, none⟩))
  pm : w.cell? ⟨c, 0, none⟩ = some (.int .i64 (m : Int))
theorem Cap.below {w w' : World} {a c b m n : Nat} {v : Vw} (h : Cap w a c b v m) (hb : Below n w w') (h1 : a < n) (h2 : c < n) (h3 : b < n) : Cap w' a c b v m :=
  ⟨h.vb.below hb h3, (hb.cell (p := ⟨a, 0, none⟩) h1).trans h.pv, (hb.cell (p := ⟨c, 0, none⟩) h2).trans h.pm⟩
theorem own_eq {v : Vw} {n m : Nat} (hm : m < 64) : (ownZ (v.own n) == (m : Int)) = v.cl m n := by
  unfold Vw.cl ownZ
  by_cases e : v.own n = m
  · rw [e, if_pos hm]; simp
  · rw [beq_eq_false_iff_ne.2 e, beq_eq_false_iff_ne]
    split <;> omega
set_option maxHeartbeats 2000000 in
set_option maxRecDepth 100000 in
theorem claims1_any (a c b m n : Nat) (v : Vw) (w : World) (h : Cap w a c b v m) (hm : m < 64) (hn : n < 16384) : Calls Tryz.prog 47 #[.int .i64 (n : Int), .pointer (some ⟨a, 0, none⟩), .pointer (some ⟨c, 0, none⟩)] w fun e w' => e = .returned (.bool (v.cl m n)) ∧ Below w.heap.size w w' := by
  have h1 := h.pv
  have h2 := h.pm
  have HO : Hid (Calls Tryz.prog 27 #[.pointer (some ⟨b, 0, none⟩), .int .i64 (n : Int)] w.drew fun e w' => e = .returned (.int .i64 (ownZ (v.own n))) ∧ w' = w.drew) := by
    have := owner_any b v (n : Int) w.drew (h.vb.turn rfl)
    rwa [ownI_in v hn] at this
  have he := own_eq (v := v) (n := n) hm
  generalize ownZ (v.own n) = z at *
  have HE := hid he
  have HW : Hid (Below w.heap.size w w.drew) := (Below.refl _ w).drew
  clear hm hn h he
  go_enter Tryz.func47, Tryz.ntmps47
  go_upto_region 1 with fail
  go_region_law (first
    | (go_simp; go_at_call 27; refine HO.out.mono ?_; rintro e w1 ⟨rfl, rfl⟩))
  all_goals go_wp2
  all_goals go_ret
  all_goals exact ⟨by rw [← HE.out]; rfl, HW.out⟩

end Go.Proofs.YtbfllifgmlkndaaGreatDoor

namespace Go.Proofs.YtbfllifgmlkndaaGreatDoor
open Go.RowKit
open Slot

theorem last_yes {t n : Nat} (h : t + 1 = n) : ((t : Int) == (n : Int) - 1) = true := by rw [beq_iff_eq]; omega
theorem last_ne {t n : Nat} (h : ¬ t + 1 = n) : ¬ (t : Int) = (n : Int) - 1 := by omega
theorem last_no {t n : Nat} (h : ¬ t + 1 = n) : ((t : Int) == (n : Int) - 1) = false := by rw [beq_eq_false_iff_ne]; omega

theorem gd_push {S : Nat → Bool} {n k : Nat} {p : Option Addr} {L : List (Nat × Nat)} {w w1 : World} (hG : Gd S n L) (hSn : S n = true) (hO : w1.ownsRow (w.heap.size + 1) 116 2 (.slice p L.length k) L.length (flat L)) (hZ : Box w1 w.heap.size (fun _ => false)) (hW : Below w.heap.size w w1) (hL : L.length ≤ 16384) :
    ∃ v' w3, (Builtin.append_ #[80, 80] 80 #[.slice p L.length k, .slice (some ⟨w1.heap.size, 0, none⟩) 1 1]).run Tryz.prog (w1.alloc (.cells #[.int .i64 (n : Int), .int .i64 (n : Int)] 116)) = .ok v' w3 ∧ (∃ p2 k2, v' = .slice p2 (L ++ [(n, n)]).length k2) ∧ w3.ownsRow (w.heap.size + 1) 116 2 v' (L ++ [(n, n)]).length (flat (L ++ [(n, n)])) ∧ Box w3 w.heap.size (fun _ => false) ∧ Below w.heap.size w w3 ∧ Gd S (n + 1) (L ++ [(n, n)]) := by
  have hs1 : w.heap.size + 1 ≤ w1.heap.size := hZ.lt
  obtain ⟨v', w3, hrun, ho3, hg3⟩ := push_run (w.heap.size + 1) w1 (.slice p L.length k) L n n hO hs1 hL
  have hb3 : Below (w.heap.size + 1) (w1.alloc (.cells #[.int .i64 (n : Int), .int .i64 (n : Int)] 116)) w3 := (Below.refl _ _).grown hg3 (by simp; omega) (fun q hq => (World.ownsRow.lt hO q hq).1)
  obtain ⟨g, cp, hv⟩ := owns_form ho3 (by simp)
  exact ⟨v', w3, hrun, ⟨_, _, hv⟩, ho3, (hZ.below (below_alloc w1 _) hZ.lt).below hb3 (by omega), (hW.alloc (by omega) _).trans (hb3.mono (by omega)), hG.push hSn⟩
set_option maxHeartbeats 1000000 in
set_option maxRecDepth 100000 in
theorem swhere_any (a c b m : Nat) (v : Vw) (w : World) (h : Cap w a c b v m) (hm : m < 64) (ha : a < w.heap.size) (hc : c < w.heap.size) : Calls Tryz.prog 46 #[.func (.func 47) #[] #[.pointer (some ⟨a, 0, none⟩), .pointer (some ⟨c, 0, none⟩)]] w fun e w' => e = .returned (.agg (cellsOf (v.cl m))) ∧ Below w.heap.size w w' := by
  have hz := zeroBits
  have hb := h.vb.lt
  have HZ0 : Hid (Box (w.alloc (.cells (cellsOf (fun _ => false)) 24)) w.heap.size (fun _ => false)) := heap_alloc_new w _
  have HW0 := hid (below_alloc w (.cells (cellsOf (fun _ => false)) 24))
  have HCl := hid (fun (n : Nat) (W : World) (hW : Below w.heap.size w W) (hn : n < 16384) => claims1_any a c b m n v W (h.below hW ha hc hb) hm hn)
  obtain ⟨S, hS⟩ : ∃ S, v.cl m = S := ⟨_, rfl⟩
  rw [hS] at HCl ⊢
  clear hS h
  go_enter Tryz.func46, Tryz.ntmps46
  go_wp2_with fail
  go_loopw [3, 8] (fun c3 c8 wr => ∃ (n : Nat) (p : Option Addr) (k : Nat) (L : List (Nat × Nat)), c8 = .int .i64 (n : Int) ∧ c3 = .slice p L.length k ∧ n ≤ 16384 ∧ L.length ≤ n ∧ Hid (Gd S n L) ∧ Hid (wr.ownsRow (w.heap.size + 1) 116 2 (.slice p L.length k) L.length (flat L)) ∧ Hid (Box wr w.heap.size (fun _ => false)) ∧ Hid (Below w.heap.size w wr)) (fun _ i _ => 16384 - (intOf i).toNat)
  case atStart => exact ⟨0, none, 0, [], rfl, rfl, Nat.zero_le _, Nat.le_refl _, ⟨fun _ h => (by cases h), fun t ht => absurd ht (Nat.not_lt_zero _)⟩, World.ownsRow_nil _ _ _ _, HZ0.out, HW0.out⟩
  case round =>
    obtain ⟨n, p, k, L, rfl, rfl, hn, hL, HG, HO, HZ, HW⟩ := hrel
    by_cases hlt : n < 16384
    · have hnz : (n : Int) < 16384 := by omega
      have HC := hid (HCl.out n wr HW.out hlt)
      go_wp2_with fail
      refine HC.out.mono ?_; rintro e w1 ⟨rfl, hb1⟩
      have HO1 := hid (owns_below HO.out hb1)
      have HZ1 := hid (HZ.out.below hb1 HZ.out.lt)
      have HW1 := hid (HW.out.trans (hb1.mono HW.out.size))
      have hs1 : w.heap.size + 1 ≤ w1.heap.size := HZ1.out.lt
      clear hb1 HC
      cases hSn : S n with
      | false =>
        have HG1 := hid (HG.out.no hSn)
        go_wp2_with fail
        go_roundw
        case rel => exact ⟨n + 1, p, k, L, by go_num, rfl, by omega, by omega, HG1.out, HO1.out, HZ1.out, HW1.out⟩
        case measure => simp [intOf]; omega
      | true =>
        have push := hid (gd_push HG.out hSn HO1.out HZ1.out HW1.out (by omega))
        rcases List.eq_nil_or_concat L with rfl | ⟨L0, ⟨f, t⟩, hL0⟩
        · obtain ⟨v', w3, hrun, ⟨p2, k2, rfl⟩, ho3, hz3, hw3, hg3⟩ := push.out
          have HR := hid hrun
          have HO3 := hid ho3
          have HZ3 := hid hz3
          have HW3 := hid hw3
          have HG3 := hid hg3
          clear push hrun ho3 hz3 hw3 hg3
          go_wp2_with (at_builtin; refine wpList_append_run rfl _ _ 80 rfl _ _ _ _ rfl rfl HR.out ?_)
          go_roundw
          case rel => exact ⟨n + 1, p2, k2, [] ++ [(n, n)], by go_num, rfl, by omega, by simp, HG3.out, HO3.out, HZ3.out, HW3.out⟩
          case measure => simp [intOf]; omega
        · rw [List.concat_eq_append] at hL0
          subst hL0
          have ln : (L0 ++ [(f, t)]).length = L0.length + 1 := by simp
          obtain ⟨g, cp, hv4⟩ := owns_form HO1.out (by rw [ln]; omega)
          injection hv4 with ea el ec
          subst ea
          subst ec
          have hcl : w1.cell? ⟨g, L0.length * 2 + 1, none⟩ = some (.int .i64 (t : Int)) := by
            rw [World.ownsRow.cellAt HO1.out _ (by rw [ln]; omega), flat_append, List.getElem?_append_right (by rw [flat_length]; omega), flat_length]
            simp [flat]
          have hgl := World.ownsRow.lt HO1.out g rfl
          have hfr : w1.frozen? ⟨g, L0.length * 2 + 1, none⟩ = false := World.ownsRow.frozenAt HO1.out _
          have HTn := hid (HG.out.val (f, t) (by simp))
          obtain ⟨K, hK⟩ : ∃ K, (L0 ++ [(f, t)]).length = K := ⟨_, rfl⟩
          obtain ⟨q, hq⟩ : ∃ q, L0.length = q := ⟨_, rfl⟩
          have h1 : (K : Int) - 1 = (q : Int) := by omega
          have h2 : (0 : Int) ≤ (q : Int) := by omega
          have h3 : (q : Int) < (K : Int) := by omega
          have HL2 : Hid (K ≤ n) := by rw [← hK]; exact hL
          have hKz : (K : Int) ≤ 16384 := by have := HL2.out; omega
          have HK := hid hK
          rw [hK]
          rw [hq] at hcl hfr
          by_cases hnt : t + 1 = n
          · have HG3 := hid (HG.out.more hSn hnt)
            have HO3 : Hid ((w1.setCell ⟨g, q * 2 + 1, none⟩ (.int .i64 (n : Int))).ownsRow (w.heap.size + 1) 116 2 (.slice (some ⟨g, 0, none⟩) (L0 ++ [(f, n)]).length k) (L0 ++ [(f, n)]).length (flat (L0 ++ [(f, n)]))) := by
              obtain ⟨ho3, -⟩ := World.ownsRow.stored HO1.out (L0.length * 2 + 1) (.int .i64 (n : Int))
              rw [flat_set, hK, hq] at ho3
              have e : (L0 ++ [(f, n)]).length = K := by rw [← hK]; simp
              rw [e]
              exact ho3
            have HLq : Hid ((L0 ++ [(f, n)]).length = K) := by rw [← hK]; simp [Hid]
            have HZ3 := hid (HZ1.out.below ((Below.refl (w.heap.size + 1) w1).setCell (p := ⟨g, q * 2 + 1, none⟩) hgl.1 (.int .i64 (n : Int))) (by omega))
            have HW3 := hid (HW1.out.setCell (p := ⟨g, q * 2 + 1, none⟩) (by show w.heap.size ≤ g; omega) (.int .i64 (n : Int)))
            have hb : ((t : Int) == (n : Int) - 1) = true := last_yes hnt
            clear push hK hq ln hL el hnt
            go_wp2_with (at_builtin; fail)
            go_roundw
            case rel => exact ⟨n + 1, some ⟨g, 0, none⟩, k, L0 ++ [(f, n)], by go_num, by rw [HLq.out], by omega, by rw [HLq.out]; have := HL2.out; omega, HG3.out, HO3.out, HZ3.out, HW3.out⟩
            case measure => simp [intOf]; omega
          · obtain ⟨v', w3, hrun, ⟨p2, k2, rfl⟩, ho3, hz3, hw3, hg3⟩ := push.out
            have HLe : Hid ((L0 ++ [(f, t)] ++ [(n, n)]).length = K + 1) := by rw [← hK]; simp [Hid]
            rw [hK] at hrun
            obtain ⟨K2, hK2⟩ : ∃ x, (L0 ++ [(f, t)] ++ [(n, n)]).length = x := ⟨_, rfl⟩
            rw [hK2] at hrun
            have HR := hid hrun
            have HK2 := hid hK2
            have HO3 := hid ho3
            have HZ3 := hid hz3
            have HW3 := hid hw3
            have HG3 := hid hg3
            have hb : ((t : Int) == (n : Int) - 1) = false := last_no hnt
            have hb2 : ¬ (t : Int) = (n : Int) - 1 := last_ne hnt
            clear push hrun ho3 hz3 hw3 hg3 hnt el hK hq ln hL hK2
            go_wp2_with (at_builtin; refine wpList_append_run rfl _ _ 80 rfl _ _ _ _ rfl rfl HR.out ?_)
            go_roundw
            case rel => exact ⟨n + 1, p2, k2, L0 ++ [(f, t)] ++ [(n, n)], by go_num, by rw [HK2.out], by omega, by rw [HLe.out]; have := HL2.out; omega, HG3.out, HO3.out, HZ3.out, HW3.out⟩
            case measure => simp [intOf]; omega
    · obtain rfl : n = 16384 := by omega
      have HMk := hid (make_own HO.out (by omega) (fun q hq => by have := HG.out.val q hq; unfold top; exact this))
      have HE : Hid (cellsOf (ofList L) = cellsOf S) := cellsOf_congr (fun t ht => HG.out.mem t ht)
      clear HCl
      go_wp2_with fail
      refine HMk.out.mono ?_; rintro e w2 ⟨rfl, hb2⟩
      have HZ2 := hid (HZ.out.below hb2 HZ.out.lt)
      have HW2 := hid (HW.out.trans (hb2.mono HW.out.size))
      clear hb2
      rw [HE.out]
      have HN2 : Hid (Box (w2.alloc (.cells (cellsOf (fun _ => false)) 24)) w2.heap.size (fun _ => false)) := heap_alloc_new w2 _
      have HN3 : Hid (Box ((w2.alloc (.cells (cellsOf (fun _ => false)) 24)).setRow w2.heap.size (cellsOf S)) w2.heap.size S) := setRow_heap _ _ _ _ _ _ HN2.out
      have HZ3 : Hid (Box ((w2.alloc (.cells (cellsOf (fun _ => false)) 24)).setRow w2.heap.size (cellsOf S)) w.heap.size (fun _ => false)) := (setRow_other _ _ _ _ (by have := HZ2.out.lt; omega)).trans (HZ2.out.below (below_alloc w2 _) HZ2.out.lt)
      go_wp2_with (first | (refine wpList_store_row rfl 24 _ _ rfl w2.heap.size _ rfl rfl 24 _ HN2.out (infoBits _) (sizes _ _) (oneCells _) ?_) | (refine wpList_load_row rfl 24 _ rfl w2.heap.size rfl 24 _ (0, 0) _ HN3.out Tryz.underlying24 rfl (infoBits _) ?_) | (refine wpList_store_row rfl 24 _ _ rfl w.heap.size _ rfl rfl 24 _ HZ3.out (infoBits _) (sizes _ _) (oneCells _) ?_))
      refine bodyPost_ret (v := .agg (cellsOf S)) (ret_box rfl rfl (setRow_heap _ _ _ _ _ _ HZ3.out)) rfl ⟨rfl, ?_⟩
      exact below_setRow (below_setRow (HW2.out.alloc HW2.out.size _) (HW2.out.size) _) (Nat.le_refl _) _
/-- what Claims tells -/
def clsI (v : Vw) (n : Int) : Nat → Bool := if nodeB n = true then v.cl n.toNat else fun _ => false
theorem clsI_in (v : Vw) {n : Nat} (h : n < 64) : clsI v n = v.cl n := by
  unfold clsI nodeB
  rw [if_pos (decide_eq_true (by omega)), Int.toNat_natCast]
theorem clsI_out (v : Vw) {n : Int} (h : nodeB n = false) : clsI v n = fun _ => false := by unfold clsI; rw [h]; simp
theorem build_bits0 (w : World) : (Instr.build 24 #[]).run Tryz.prog w = .ok (.agg (cellsOf (fun _ => false))) w := by
  rw [← zeroBits, zeroRep]
  refine run_build w _ _ _ ?_
  kernel_rfl

end Go.Proofs.YtbfllifgmlkndaaGreatDoor

namespace Go.Proofs.YtbfllifgmlkndaaGreatDoor
open Go.RowKit
open Slot

set_option maxHeartbeats 2000000 in
set_option maxRecDepth 100000 in
/-- Claims -/
theorem claims_any (b : Nat) (v : Vw) (n : Int) (w : World) (hV : VB w b v) : Calls Tryz.prog 20 #[.pointer (some ⟨b, 0, none⟩), .int .i64 n] w fun e w' => e = .returned (.agg (cellsOf (clsI v n))) ∧ Below w.heap.size w w' := by
  have hz := zeroBits
  have hb := hV.lt
  have hbl1 := below_alloc w (.cells #[.pointer (some ⟨b, 0, none⟩)] 50)
  have e1 : (w.alloc (.cells #[.pointer (some ⟨b, 0, none⟩)] 50)).heap.size = w.heap.size + 1 := by simp
  have e2 : ((w.alloc (.cells #[.pointer (some ⟨b, 0, none⟩)] 50)).alloc (.cells #[.int .i64 n] 3)).heap.size = w.heap.size + 2 := by simp
  have HW0 : Hid (Below w.heap.size w (((w.alloc (.cells #[.pointer (some ⟨b, 0, none⟩)] 50)).alloc (.cells #[.int .i64 n] 3)).alloc (.cells (cellsOf (fun _ => false)) 24))) := (hbl1.alloc (by omega) _).alloc (by omega) _
  have HV0 := hid (hV.below HW0.out hb)
  have hb3 := below_alloc ((w.alloc (.cells #[.pointer (some ⟨b, 0, none⟩)] 50)).alloc (.cells #[.int .i64 n] 3)) (.cells (cellsOf (fun _ => false)) 24)
  have HZ0 : Hid (Box (((w.alloc (.cells #[.pointer (some ⟨b, 0, none⟩)] 50)).alloc (.cells #[.int .i64 n] 3)).alloc (.cells (cellsOf (fun _ => false)) 24)) (w.heap.size + 2) (fun _ => false)) := by
    have := heap_alloc_new ((w.alloc (.cells #[.pointer (some ⟨b, 0, none⟩)] 50)).alloc (.cells #[.int .i64 n] 3)) (.cells (cellsOf (fun _ => false)) 24)
    rwa [e2] at this
  have c0 : (((w.alloc (.cells #[.pointer (some ⟨b, 0, none⟩)] 50)).alloc (.cells #[.int .i64 n] 3)).alloc (.cells (cellsOf (fun _ => false)) 24)).cell? ⟨w.heap.size, 0, none⟩ = some (.pointer (some ⟨b, 0, none⟩)) :=
    cell_of_row _ _ _ _ _ _ ((hb3.block _ (by omega)).trans (heap_alloc2_old w _ _))
  have c1 : (((w.alloc (.cells #[.pointer (some ⟨b, 0, none⟩)] 50)).alloc (.cells #[.int .i64 n] 3)).alloc (.cells (cellsOf (fun _ => false)) 24)).cell? ⟨w.heap.size + 1, 0, none⟩ = some (.int .i64 n) :=
    cell_of_row _ _ _ _ _ _ ((hb3.block _ (by omega)).trans (heap_alloc2_new w _ _))
  have HC0 := hid c0
  have HC1 := hid c1
  have hbu := build_bits0
  have HI := hid (fun W => isnode_any n W)
  have HB := hid hb
  clear hbl1 e1 e2 hb3 c0 hb
  cases hn : nodeB n with
  | false =>
    have HE := hid (clsI_out v hn)
    go_enter Tryz.func20, Tryz.ntmps20
    go_upto_region 1 with fail
    generalize (((w.alloc (.cells #[.pointer (some ⟨b, 0, none⟩)] 50)).alloc (.cells #[.int .i64 n] 3)).alloc (.cells (cellsOf (fun _ => false)) 24)) = w3 at *
    go_wp2_with fail
    refine (HI.out _).mono ?_; rintro e w4 ⟨rfl, rfl⟩
    rw [hn]
    go_wp2_with (refine wpList_store_row rfl 24 _ _ rfl (w.heap.size + 2) _ rfl rfl 24 _ HZ0.out (infoBits _) (sizes _ _) (oneCells _) ?_)
    refine bodyPost_ret (v := .agg (cellsOf (fun _ => false))) (ret_box rfl rfl (setRow_heap _ _ _ _ _ _ HZ0.out)) rfl ⟨by rw [HE.out], below_setRow HW0.out (by omega) _⟩
  | true =>
    have h := of_decide_eq_true hn
    obtain ⟨m, rfl⟩ := Int.eq_ofNat_of_zero_le h.1
    have HE := hid (clsI_in v (n := m) (by omega))
    have HCp : Hid (Cap (((w.alloc (.cells #[.pointer (some ⟨b, 0, none⟩)] 50)).alloc (.cells #[.int .i64 (m : Int)] 3)).alloc (.cells (cellsOf (fun _ => false)) 24)) w.heap.size (w.heap.size + 1) b v m) := ⟨HV0.out, HC0.out, HC1.out⟩
    have HS := hid (swhere_any w.heap.size (w.heap.size + 1) b m v _ HCp.out (by omega) (by have := HZ0.out.lt; omega) (by have := HZ0.out.lt; omega))
    clear h hbu
    go_enter Tryz.func20, Tryz.ntmps20
    go_upto_region 1 with fail
    generalize (((w.alloc (.cells #[.pointer (some ⟨b, 0, none⟩)] 50)).alloc (.cells #[.int .i64 (m : Int)] 3)).alloc (.cells (cellsOf (fun _ => false)) 24)) = w3 at *
    go_wp2_with fail
    refine (HI.out _).mono ?_; rintro e w4 ⟨rfl, rfl⟩
    rw [hn]
    go_wp2_with fail
    refine HS.out.mono ?_; rintro e w5 ⟨rfl, hb5⟩
    have HZ5 := hid (HZ0.out.below hb5 HZ0.out.lt)
    have HW5 := hid (HW0.out.trans (hb5.mono HW0.out.size))
    clear hb5
    go_wp2_with (refine wpList_store_row rfl 24 _ _ rfl (w.heap.size + 2) _ rfl rfl 24 _ HZ5.out (infoBits _) (sizes _ _) (oneCells _) ?_)
    refine bodyPost_ret (v := .agg (cellsOf (v.cl m))) (ret_box rfl rfl (setRow_heap _ _ _ _ _ _ HZ5.out)) rfl ⟨by rw [HE.out], below_setRow HW5.out (by omega) _⟩

end Go.Proofs.YtbfllifgmlkndaaGreatDoor

namespace Go.Proofs.YtbfllifgmlkndaaGreatDoor
open Go.RowKit
open Slot

/-- Tell -/
theorem tell_any (b : Nat) (kind : Int) (v : Vw) (w : World) (hV : VB w b v) (hs : v.self < 64) : Calls Tryz.prog 75 #[.pointer (some ⟨b, 0, none⟩), .int .i64 kind] w fun e w' => e = .returned (.agg (pkCells (tellV v kind))) ∧ Below w.heap.size w w' := by
  have hbu := tell_form kind (v.self : Int) (v.ep v.self) v.cur (v.cl v.self)
  rw [zeroPk, cellsOf_size] at hbu
  refine ptell_core b (v.ep v.self) kind v (cellsOf (v.cl v.self)) (pkCells (tellV v kind)) (pkCells zeroP) w hV (cellsOf_size _) zeroPk (pkCells_size _) (pkCells_size _) (onePk _) (fun W h => ?_) (fun W h => ?_) hbu
  · have := epoch_any b v (v.self : Int) W h
    rwa [epI_in v hs] at this
  · have := claims_any b v (v.self : Int) W h
    rwa [clsI_in v hs] at this
/-- update -/
theorem update_any (b m : Nat) (v : Vw) (w : World) (hV : VB w b v) (hm : m < 64) : Calls Tryz.prog 89 #[.pointer (some ⟨b, 0, none⟩), .int .i64 (m : Int)] w fun e w' => e = .returned (.agg (pkCells (updV v m))) ∧ Below w.heap.size w w' := by
  have hbu := upd_form 3 (v.self : Int) (m : Int) (v.ep m) v.cur (v.cl m)
  rw [zeroPk, cellsOf_size] at hbu
  refine pupdate_core b (v.ep m) m v (cellsOf (v.cl m)) (pkCells (updV v m)) (pkCells zeroP) w hV (cellsOf_size _) zeroPk (pkCells_size _) (pkCells_size _) (onePk _) (fun W h => ?_) (fun W h => ?_) hbu
  · have := epoch_any b v (m : Int) W h
    rwa [epI_in v hm] at this
  · have := claims_any b v (m : Int) W h
    rwa [clsI_in v hm] at this

end Go.Proofs.YtbfllifgmlkndaaGreatDoor
