/- BlAlive. -/
import Derived.Test.YtbfllifgmlkndaaGreatDoorM45
namespace Go.Proofs.YtbfllifgmlkndaaGreatDoor
open Go.RowKit
open Slot

def oA : Nat → Nat := fun s => if s < 5 then 0 else if s = 5 then 1 else 64
def sA : Nat → Bool := fun s => decide (s < 5)
def sB : Nat → Bool := fun s => s == 5
def vA : Vw := newV 0 sA 1
def vB : Vw := newV 1 sB 2
theorem invA : Inv oA 0 vA := Inv.new (by decide) (fun s _ => by
  unfold sA oA
  by_cases h : s < 5
  · simp [h]
  · by_cases h2 : s = 5
    · subst h2; rfl
    · simp [h, h2])
theorem invB : Inv oA 1 vB := Inv.new (by decide) (fun s _ => by
  unfold sB oA
  by_cases h : s < 5
  · have : ¬ s = 5 := by omega
    simp [h, this]
  · by_cases h2 : s = 5
    · subst h2; rfl
    · simp [h, h2])
theorem word_low {T : Nat → Bool} (hT : ∀ n, 64 ≤ n → T n = false) : ∀ j, j < 256 → word T j = if j = 0 then word T 0 else word (fun _ => false) j := fun j _ => by
  by_cases e : j = 0
  · rw [if_pos e, e]
  · rw [if_neg e]
    unfold word
    exact num_congr fun k hk => hT _ (by omega)
theorem cells_low {T : Nat → Bool} {x : Nat} (h0 : word T 0 = x) (hT : ∀ n, 64 ≤ n → T n = false) : (cellsOf fun _ => false).setIfInBounds 0 (.int .u64 (x : Int)) = cellsOf T := by
  refine Array.ext_getElem? fun i => ?_
  by_cases hi : i < 256
  · rw [cellsOf_get T i hi, word_low hT i hi]
    by_cases e : i = 0
    · subst e
      rw [if_pos rfl, h0]
      exact Array.getElem?_setIfInBounds_self_of_lt (by rw [cellsOf_size]; decide)
    · rw [if_neg e, Array.getElem?_setIfInBounds_ne (by omega), cellsOf_get _ i hi]
  · rw [Array.getElem?_eq_none (by rw [Array.size_setIfInBounds, cellsOf_size]; omega), Array.getElem?_eq_none (by rw [cellsOf_size]; omega)]
theorem wA : word sA 0 = 31 := by decide
theorem wB : word sB 0 = 32 := by decide
theorem OutB.one {w : World} {a : Option Addr} {t : Int} {s : Bs} (h : OutB w a [(t, s)]) : ∃ b o, a = some ⟨b, o, none⟩ ∧ w.cell? ⟨b, o, none⟩ = some (.int .i64 t) ∧ w.cell? ⟨b, o + 1, none⟩ = some (.string ⟨s.toArray⟩) := by
  obtain ⟨b, o, rfl, -, h2⟩ := h (by simp)
  obtain ⟨h3, h4⟩ := h2 0 (by simp)
  refine ⟨b, o, rfl, ?_, ?_⟩
  · simpa using h3
  · simpa using h4
/-- two buses on their way -/
structure Two (B : Nat) (w0 w : World) (F G : Nat → Prop) (b vb : Nat) (v : Vw) (O : List (Int × Bs)) (c vc : Nat) (u : Vw) (M : List (Int × Bs)) : Prop where
  one : BB B w F b vb v O
  two : BB B w G c vc u M
  apart : ∀ k, F k → ¬ G k
  lowF : ∀ k, F k → w0.heap.size ≤ k
  lowG : ∀ k, G k → w0.heap.size ≤ k
  bel : Below w0.heap.size w0 w
theorem Two.stepA {B : Nat} {w0 w w' : World} {F F' G : Nat → Prop} {b vb : Nat} {v v' : Vw} {O O' : List (Int × Bs)} {c vc : Nat} {u : Vw} {M : List (Int × Bs)} (h : Two B w0 w F G b vb v O c vc u M) (h1 : BB B w' F' b vb v' O') (h2 : Kp F F' w w') : Two B w0 w' F' G b vb v' O' c vc u M :=
  ⟨h1, h.two.keep h2 (fun k hg hf => h.apart k hf hg), fun k hf hg => (h2.foot k hf).elim (fun c => h.apart k c hg) (fun c => by have := h.two.lt k hg; omega), fun k hf => (h2.foot k hf).elim (h.lowF k) (fun c => by have := h.bel.size; omega), h.lowG, h.bel.trans (h2.below h.lowF h.bel.size)⟩
theorem Two.swap {B : Nat} {w0 w : World} {F G : Nat → Prop} {b vb : Nat} {v : Vw} {O : List (Int × Bs)} {c vc : Nat} {u : Vw} {M : List (Int × Bs)} (h : Two B w0 w F G b vb v O c vc u M) : Two B w0 w G F c vc u M b vb v O :=
  ⟨h.two, h.one, fun k hg hf => h.apart k hf hg, h.lowG, h.lowF, h.bel⟩
set_option maxHeartbeats 4000000 in
set_option maxRecDepth 100000 in
theorem balive_core (AC BC : Array Value) (sa sb : Bs) (va vb' ub ua : Vw) (w : World) (hE : Env w)
    (hac : (cellsOf fun _ => false).setIfInBounds 0 (.int .u64 31) = AC) (hbc : (cellsOf fun _ => false).setIfInBounds 0 (.int .u64 32) = BC)
    (hNa : ∀ W, 7 ≤ W.heap.size → Calls Tryz.prog 7 #[.int .i64 0, .agg AC, .int .u64 1] W (UNewP 7 va W)) (hNb : ∀ W, 7 ≤ W.heap.size → Calls Tryz.prog 7 #[.int .i64 1, .agg BC, .int .u64 2] W (UNewP 7 vb' W))
    (hPi : ∀ W F b vb, BB 7 W F b vb va [] → Env W → Calls Tryz.prog 22 #[.pointer (some ⟨b, 0, none⟩), .int .i64 1] W (BusP 7 b vb F va [(1, sa)] (.int .i64 0) W))
    (hTb : ∀ W F b vb, BB 7 W F b vb vb' [] → Env W → Calls Tryz.prog 17 #[.pointer (some ⟨b, 0, none⟩), .string ⟨sa.toArray⟩] W (BusP 7 b vb F ub [(0, sb)] (.bool true) W))
    (hTa : ∀ W F b vb, BB 7 W F b vb va [] → Env W → Calls Tryz.prog 17 #[.pointer (some ⟨b, 0, none⟩), .string ⟨sb.toArray⟩] W (BusP 7 b vb F ua [] (.bool true) W))
    (h5 : ∀ c W, VB W c ua → Calls Tryz.prog 27 #[.pointer (some ⟨c, 0, none⟩), .int .i64 5] W fun e w' => e = .returned (.int .i64 1) ∧ w' = W) :
    Calls Tryz.prog 10 #[] w fun e w' => e = .returned (.bool true) ∧ Below w.heap.size w w' := by
  have hz := zeroBits
  have HNa := hid hNa
  have HNb := hid hNb
  have HPi := hid hPi
  have HTb := hid hTb
  have HTa := hid hTa
  have H5 := hid h5
  have HE := hid hE
  clear hNa hNb hPi hTb hTa h5 hE
  go_enter Tryz.func10, Tryz.ntmps10
  go_wp2_with fail
  refine (HNa.out _ HE.out.room).mono ?_; rintro e w1 ⟨b, vb, F, rfl, hB, hF, hW⟩
  have HB := hid hB
  have HF := hid hF
  have HW1 := hid hW
  have HE1 := hid (HE.out.below hW HE.out.room)
  clear hB hF hW
  go_wp2_with fail
  refine (HNb.out _ HE1.out.room).mono ?_; rintro e w2 ⟨c, vc, G, rfl, hB, hG, hW⟩
  have HT2 : Hid (Two 7 w w2 F G b vb va [] c vc vb' []) := ⟨HB.out.call hW, hB, fun k hf hg => by have := HB.out.lt k hf; have := hG k hg; omega, HF.out, fun k hg => by have := hG k hg; have := HW1.out.size; omega, HW1.out.trans (hW.mono HW1.out.size)⟩
  have HE2 := hid (HE1.out.below hW HE1.out.room)
  clear hB hG hW HB HF HW1 HE1 HNa HNb hz hac hbc
  go_wp2_with fail
  refine (HPi.out _ _ _ _ HT2.out.one HE2.out).mono ?_; rintro e w3 ⟨rfl, F3, hB, hK⟩
  have HT3 := hid (HT2.out.stepA hB hK)
  have HE3 := hid (HE.out.below HT3.out.bel HE.out.room)
  have HO := hid (uouts_any 7 b vb F3 va [(1, sa)] w3 hB)
  clear hB hK HT2 HE2
  go_wp2_with fail
  refine HO.out.mono ?_; rintro e w4 ⟨a4, c4, rfl, ho, -, F4, hB, hK, -⟩
  obtain ⟨x4, y4, rfl, o1, o2⟩ := ho.one
  have HT4 := hid (HT3.out.stepA hB hK)
  have HE4 := hid (HE.out.below HT4.out.bel HE.out.room)
  have hl1 : ([((1 : Int), sa)] : List (Int × Bs)).length = 1 := rfl
  rw [hl1]
  clear hB hK HT3 HE3 HO ho hl1
  obtain ⟨SA, hSA⟩ : ∃ S : ByteArray, ⟨sa.toArray⟩ = S := ⟨_, rfl⟩
  rw [hSA] at o2 HTb
  clear hSA
  go_wp2_with fail
  refine (HTb.out _ _ _ _ HT4.out.two HE4.out).mono ?_; rintro e w5 ⟨rfl, G5, hB, hK⟩
  have HT5 := hid (HT4.out.swap.stepA hB hK)
  have HE5 := hid (HE.out.below HT5.out.bel HE.out.room)
  have HO := hid (uouts_any 7 c vc G5 ub [(0, sb)] w5 hB)
  clear hB hK HT4 HE4 o1 o2 HTb
  go_wp2_with fail
  refine HO.out.mono ?_; rintro e w6 ⟨a6, c6, rfl, ho, -, G6, hB, hK, -⟩
  obtain ⟨x6, y6, rfl, o1, o2⟩ := ho.one
  have HT6 := hid (HT5.out.stepA hB hK).swap
  have HE6 := hid (HE.out.below HT6.out.bel HE.out.room)
  have hl1 : ([((0 : Int), sb)] : List (Int × Bs)).length = 1 := rfl
  rw [hl1]
  clear hB hK HT5 HE5 HO ho hl1
  obtain ⟨SB, hSB⟩ : ∃ S : ByteArray, ⟨sb.toArray⟩ = S := ⟨_, rfl⟩
  rw [hSB] at o2 HTa
  clear hSB
  go_wp2_with fail
  refine (HTa.out _ _ _ _ HT6.out.one HE6.out).mono ?_; rintro e w7 ⟨rfl, F7, hB, hK⟩
  have HT7 := hid (HT6.out.stepA hB hK)
  have HV := hid (uview_any 7 b vb F7 ua [] w7 hB)
  clear hB hK HT6 HE6 o1 o2 HTa
  go_wp2_with fail
  refine HV.out.mono ?_; rintro e w8 ⟨d, rfl, hv, -, hb⟩
  have HB8 := hid (HT7.out.one.call hb)
  have HW8 := hid (HT7.out.bel.trans (hb.mono HT7.out.bel.size))
  have HV := hid (uview_any 7 b vb F7 ua [] w8 HB8.out)
  clear hv hb HT7
  go_wp2_with fail
  refine HV.out.mono ?_; rintro e w9 ⟨d2, rfl, hv, -, hb⟩
  have HW9 := hid (HW8.out.trans (hb.mono HW8.out.size))
  have H59 := hid (H5.out _ _ hv)
  clear hv hb
  go_wp2_with fail
  refine H59.out.mono ?_; rintro e wA ⟨rfl, rfl⟩
  go_wp2_with fail
  go_ret
  exact ⟨rfl, HW9.out⟩
theorem balive_any (w : World) (hE : Env w) : Calls Tryz.prog 10 #[] w fun e w' => e = .returned (.bool true) ∧ Below w.heap.size w w' := by
  have okA : vA.Ok 1000000 := invA.ok.mono (by decide)
  have okB : vB.Ok 1000000 := invB.ok.mono (by decide)
  obtain ⟨t1, t2⟩ : tellE vA 1 = 0 ∧ tellO vA 1 1 = [(1, encS (tellV vA 1))] := tell_one invA 1 (by decide) (by decide) 1
  have gA := invA.tell (k := 1) (.inl rfl)
  obtain ⟨k1, k2, -, -, k5⟩ := good_take gA (by decide) invB (by decide)
  rw [if_pos (show (tellV vA 1).kind = 1 from rfl)] at k5
  have gB := k2.tell (k := 2) (.inr rfl)
  obtain ⟨m1, -, m3, -, m5⟩ := good_take gB (by decide) invA (by decide)
  rw [if_neg (show ¬ (tellV (bView vB (encS (tellV vA 1))) 2).kind = 1 from by show ¬ (2 : Int) = 1; decide)] at m5
  obtain ⟨-, -, -, l1⟩ := gA.dec (by decide)
  obtain ⟨-, -, -, l2⟩ := gB.dec (by decide)
  refine balive_core (cellsOf sA) (cellsOf sB) (encS (tellV vA 1)) (encS (tellV (bView vB (encS (tellV vA 1))) 2)) vA vB (bView vB (encS (tellV vA 1))) (bView vA (encS (tellV (bView vB (encS (tellV vA 1))) 2))) w hE
    (cells_low wA (fun n h => decide_eq_false (by omega))) (cells_low wB (fun n h => by show (n == 5) = false; rw [beq_eq_false_iff_ne]; omega))
    (fun W h => unew_yes 7 0 1 sA W h (by decide) (by decide)) (fun W h => unew_yes 7 1 2 sB W h (by decide) (by decide)) (fun W F b vb hB hE => ?_) (fun W F b vb hB hE => ?_) (fun W F b vb hB hE => ?_) (fun c W hv => ?_)
  · have := uping_any 7 b vb F vA [] 1 W hB hE (Nat.le_refl _) okA.self (by simp)
    rw [t1, t2] at this
    exact this
  · have := utake_any 7 b vb F vB [] (encS (tellV vA 1)) W hB hE (Nat.le_refl _) okB (by simp) (by omega)
    rw [k1, k5] at this
    exact this
  · have := utake_any 7 b vb F vA [] (encS (tellV (bView vB (encS (tellV vA 1))) 2)) W hB hE (Nat.le_refl _) okA (by simp) (by omega)
    rw [m1, m5] at this
    exact this
  · have := owner_any c _ 5 W hv
    rw [show ownI (bView vA (encS (tellV (bView vB (encS (tellV vA 1))) 2))) 5 = 1 by
      rw [show (5 : Int) = ((5 : Nat) : Int) from rfl, ownI_in _ (by decide), m3 5 (by decide) rfl]; rfl] at this
    exact this

end Go.Proofs.YtbfllifgmlkndaaGreatDoor
