/- The walk of the law SlotJoins. -/
import Derived.Test.YtlgghndpagoalaaDoorLawJoins
import Derived.RegionTactic
namespace Go.Proofs.YtlgghndpagoalaaDoor
open Go.RowKit
open Slot

theorem wpAny_norm {P : Program} {md : Region.Mode} {ops : Array Oper} {Q : Exit → Act → World → Prop} {n n' : Nat} {l l' : Array Bool} {a a' : Act} {w : World} (hn : n = n') (hl : l = l') (ha : a = a') (h : wpAny P md ops Q n' l' a' w) : wpAny P md ops Q n l a w := by
  subst hn; subst hl; subst ha; exact h

set_option maxHeartbeats 40000000 in
set_option maxRecDepth 100000 in
theorem slotJoins_walk (S T : Nat → Bool) (w : World) (hE : Env w) :
    Calls Tryd.prog 4 #[.agg (cellsOf S), .agg (cellsOf T)] w fun e w' => e = .returned (.bool true) ∧ Below w.heap.size w w' := by
  have hz := zeroBits
  have HE := hid hE
  have BA : Hid (Box ((w.alloc (.cells (cellsOf S) 25)).alloc (.cells (cellsOf T) 25)) w.heap.size S) := heap_alloc2_old w _ _
  have BB : Hid (Box ((w.alloc (.cells (cellsOf S) 25)).alloc (.cells (cellsOf T) 25)) (w.heap.size + 1) T) := heap_alloc2_new w _ _
  have W0 : Hid (Below w.heap.size w ((w.alloc (.cells (cellsOf S) 25)).alloc (.cells (cellsOf T) 25))) := (below_alloc w _).alloc (by simp) _
  have HRa := hid fun W => ranges_any S W
  have HRb := hid fun W => ranges_any T W
  clear hE
  go_enter Tryd.func4, Tryd.ntmps4
  go_wp2_with fail
  rename_i Q0 K0 hK0
  have rest : Hid (∀ (b5 : Nat) (W : World) (C : Nat → Bool) (x8 x9 x10 x11 x12 x13 x14 x15 x16 : Value), Box W w.heap.size S → Box W (w.heap.size + 1) T → Box W b5 C → (∀ n, n < top → C n = (S n || T n)) → w.heap.size + 2 ≤ b5 → Below w.heap.size w W →
      K0 { tmps := #[.agg (cellsOf S), .agg (cellsOf T), .pointer (some ⟨w.heap.size, 0, none⟩), .pointer (some ⟨w.heap.size + 1, 0, none⟩), .bool false, .pointer (some ⟨b5, 0, none⟩), .int .i64 0, undef, x8, x9, x10, x11, x12, x13, x14, x15, x16, undef, undef, undef, undef, undef, undef, undef, undef, undef, undef, undef, undef, undef, undef, undef, undef, undef, undef, undef, undef, undef, undef], defers := [] } W) := by
    intro b5 W C x8 x9 x10 x11 x12 x13 x14 x15 x16 h1 h2 h3 hC hb5 hW
    have HA1 := hid h1
    have HB1 := hid h2
    have HC1 := hid h3
    have HCs := hid hC
    have HWW := hid hW
    clear h1 h2 h3 hC hW
    refine hK0 _ _ ?_
    go_wp2
    go_loopw [7, 17] (fun _ i Y => ∃ k : Nat, k ≤ 256 ∧ i = .int .i64 k ∧ Hid (Box Y w.heap.size (orTo S T k)) ∧ Hid (Box Y (w.heap.size + 1) T) ∧ Hid (Box Y b5 C) ∧ Hid (Below w.heap.size w Y)) (fun _ i _ => 256 - (intOf i).toNat)
    case atStart => exact ⟨0, Nat.zero_le _, rfl, HA1.out.congr (fun n _ => by unfold orTo; rw [if_neg (by omega)]), HB1.out, HC1.out, HWW.out⟩
    case round =>
      obtain ⟨k, hk, rfl, HA2, HB2, HC2, HW2⟩ := hrel
      by_cases hlt : k < 256
      · obtain ⟨Y, hY⟩ : ∃ Y, Y = wr := ⟨_, rfl⟩
        subst hY
        have ca : Y.cell? ⟨w.heap.size, k, none⟩ = some (.int .u64 (word S k : Int)) := by rw [HA2.out.cell k hlt, orTo_at]
        have cb : Y.cell? ⟨w.heap.size + 1, k, none⟩ = some (.int .u64 (word T k : Int)) := HB2.out.cell k hlt
        have fa : Y.frozen? ⟨w.heap.size, k, none⟩ = false := frozen_of_row Y w.heap.size k _ _ HA2.out
        have hor := u64_or_nat _ _ (word_lt S k) (word_lt T k)
        have HSt := hid (fun z hz => or_step HA2.out z hz)
        have hki : (k : Int) < 256 := by omega
        have HFin : Hid (∀ V : World, V.heap = (Y.setCell ⟨w.heap.size, k, none⟩ (.int .u64 ((word S k ||| word T k : Nat) : Int))).heap → V.os = Y.os → V.tape = Y.tape → V.output = Y.output → Box V w.heap.size (orTo S T (k + 1)) ∧ Box V (w.heap.size + 1) T ∧ Box V b5 C ∧ Below w.heap.size w V) := fun V e1 e2 e3 e4 => by
          have q1 := HSt.out _ rfl
          have on := (Only.refl w.heap.size Y).setCell k (.int .u64 ((word S k ||| word T k : Nat) : Int))
          have q2 := HB2.out.only on (by omega)
          have q3 := HC2.out.only on (by omega)
          have q4 := HW2.out.setCell (p := ⟨w.heap.size, k, none⟩) (Nat.le_refl _) (.int .u64 ((word S k ||| word T k : Nat) : Int))
          refine ⟨by unfold Box at q1 ⊢; rw [e1]; exact q1, by unfold Box at q2 ⊢; rw [e1]; exact q2, by unfold Box at q3 ⊢; rw [e1]; exact q3, ?_⟩
          exact ⟨e2.trans q4.os, e3.trans q4.tape, e4.trans q4.output, by rw [e1]; exact q4.size, fun j hj => by rw [e1]; exact q4.block j hj⟩
        obtain ⟨z, hzz⟩ : ∃ z : Int, z = ((word S k ||| word T k : Nat) : Int) := ⟨_, rfl⟩
        rw [← hzz] at hor HFin
        obtain ⟨p, hp⟩ : ∃ p : Int, p = (word S k : Int) := ⟨_, rfl⟩
        obtain ⟨q, hq⟩ : ∃ p : Int, p = (word T k : Int) := ⟨_, rfl⟩
        rw [← hp] at ca hor
        rw [← hq] at cb hor
        clear hzz hp hq HSt
        go_wp2_with fail
        go_region
        all_goals go_wp2
        all_goals go_roundw
        case rel =>
          have hf := HFin.out ((Y.setCell ⟨w.heap.size, k, none⟩ (.int .u64 z)).drew) rfl rfl rfl rfl
          exact ⟨k + 1, by omega, by go_num, hf.1, hf.2.1, hf.2.2.1, hf.2.2.2⟩
        case measure => simp [intOf]; omega
      · have ek : k = 256 := by omega
        subst ek
        have HAl := hid (alive_any _ (HE.out.below HW2.out HE.out.room))
        have heq := eq_bits C (orTo S T 256)
        rw [(sameB_iff C (orTo S T 256)).2 (fun n hn => by rw [HCs.out n hn]; unfold orTo; rw [if_pos (by unfold top at hn; omega)])] at heq
        go_wp2_with fail
        refine HAl.out.mono ?_
        rintro e w5 ⟨rfl, hb5⟩
        have A5 := hid (HA2.out.below hb5 HA2.out.lt)
        have C5 := hid (HC2.out.below hb5 HC2.out.lt)
        have W5 := hid (HW2.out.trans (hb5.mono HW2.out.size))
        clear hb5
        go_wp2_with (first | (refine wpList_load_want rfl 25 _ rfl b5 rfl 25 _ (0, 0) _ C5.out Tryd.underlying25 rfl (infoBits _) ?_) | (refine wpList_load_want rfl 25 _ rfl w.heap.size rfl 25 _ (0, 0) _ A5.out Tryd.underlying25 rfl (infoBits _) ?_))
        go_ret
        exact ⟨rfl, W5.out⟩
  refine wp_region_any (by kernel_rfl) ?_
  change wpAny _ _ _ _ _ _ _ (World.drew _)
  have A : Hid (Box ((w.alloc (.cells (cellsOf S) 25)).alloc (.cells (cellsOf T) 25)).drew w.heap.size S) := BA
  have B : Hid (Box ((w.alloc (.cells (cellsOf S) 25)).alloc (.cells (cellsOf T) 25)).drew (w.heap.size + 1) T) := BB
  have D : Hid (Below w.heap.size w ((w.alloc (.cells (cellsOf S) 25)).alloc (.cells (cellsOf T) 25)).drew) := Below.drew W0.out
  clear BA BB W0
  generalize ((w.alloc (.cells (cellsOf S) 25)).alloc (.cells (cellsOf T) 25)).drew = X0 at A B D ⊢
  have hs : w.heap.size + 2 ≤ X0.heap.size := B.out.lt
  refine wpAny_norm (n' := 12) (l' := #[false, false, false, false, false, false, false, false, false, false, false, false]) (a' := ⟨#[.agg (cellsOf S), .agg (cellsOf T), .pointer (some ⟨w.heap.size, 0, none⟩), .pointer (some ⟨w.heap.size + 1, 0, none⟩), .bool false, undef, undef, undef, undef, undef, undef, undef, undef, undef, undef, undef, undef, undef, undef, undef, undef, undef, undef, undef, undef, undef, undef, undef, undef, undef, undef, undef, undef, undef, undef, undef, undef, undef, undef], []⟩) (by kernel_rfl) (by kernel_rfl) (by kernel_rfl) ?_
  refine wpAny_ready (rs := [0, 2, 9]) (by kernel_rfl) (by simp) ?_
  refine AllReady.cons rfl (fun K hK => ?_) ?_
  · refine step_load rfl 25 _ rfl w.heap.size rfl 25 _ (0, 0) _ A.out Tryd.underlying25 rfl (infoBits _) (hK _ _ ?_)
    clear hK K
    refine wpAny_norm (n' := 11) (l' := #[true, false, false, false, false, false, false, false, false, false, false, false]) (a' := ⟨#[.agg (cellsOf S), .agg (cellsOf T), .pointer (some ⟨w.heap.size, 0, none⟩), .pointer (some ⟨w.heap.size + 1, 0, none⟩), .bool false, undef, undef, undef, undef, .agg (cellsOf S), undef, undef, undef, undef, undef, undef, undef, undef, undef, undef, undef, undef, undef, undef, undef, undef, undef, undef, undef, undef, undef, undef, undef, undef, undef, undef, undef, undef, undef], []⟩) (by kernel_rfl) (by kernel_rfl) (by kernel_rfl) ?_
    refine wpAny_ready (rs := [1, 2, 9]) (by kernel_rfl) (by simp) ?_
    refine AllReady.cons rfl (fun K hK => ?_) ?_
    · go_simp
      go_wp2_with (go_at_call 9; refine (HRa.out _).mono ?_; rintro e X1 ⟨⟨l, v, rfl, hruns, hown⟩, hb⟩)
      replace A := hid (A.out.below hb A.out.lt)
      replace B := hid (B.out.below hb B.out.lt)
      replace D := hid (D.out.trans (hb.mono D.out.size))
      have RL := hid hruns
      have OL := hid (owns_mono (B' := w.heap.size + 2) hown (by omega))
      replace hs : w.heap.size + 2 ≤ X1.heap.size := Nat.le_trans hs hb.size
      clear hruns hown hb
      refine wpAny_norm (n' := 10) (l' := #[true, true, false, false, false, false, false, false, false, false, false, false]) (a' := ⟨#[.agg (cellsOf S), .agg (cellsOf T), .pointer (some ⟨w.heap.size, 0, none⟩), .pointer (some ⟨w.heap.size + 1, 0, none⟩), .bool false, undef, undef, undef, undef, .agg (cellsOf S), v, undef, undef, undef, undef, undef, undef, undef, undef, undef, undef, undef, undef, undef, undef, undef, undef, undef, undef, undef, undef, undef, undef, undef, undef, undef, undef, undef, undef], []⟩) (by kernel_rfl) (by kernel_rfl) (by kernel_rfl) ?_
      refine wpAny_ready (rs := [2, 9]) (by kernel_rfl) (by simp) ?_
      refine AllReady.cons rfl (fun K hK => ?_) ?_
      · refine step_load rfl 25 _ rfl (w.heap.size + 1) rfl 25 _ (0, 0) _ B.out Tryd.underlying25 rfl (infoBits _) (hK _ _ ?_)
        clear hK K
        refine wpAny_norm (n' := 9) (l' := #[true, true, true, false, false, false, false, false, false, false, false, false]) (a' := ⟨#[.agg (cellsOf S), .agg (cellsOf T), .pointer (some ⟨w.heap.size, 0, none⟩), .pointer (some ⟨w.heap.size + 1, 0, none⟩), .bool false, undef, undef, undef, undef, .agg (cellsOf S), v, .agg (cellsOf T), undef, undef, undef, undef, undef, undef, undef, undef, undef, undef, undef, undef, undef, undef, undef, undef, undef, undef, undef, undef, undef, undef, undef, undef, undef, undef, undef], []⟩) (by kernel_rfl) (by kernel_rfl) (by kernel_rfl) ?_
        refine wpAny_ready (rs := [3, 9]) (by kernel_rfl) (by simp) ?_
        refine AllReady.cons rfl (fun K hK => ?_) ?_
        · go_simp
          go_wp2_with (go_at_call 9; refine (HRb.out _).mono ?_; rintro e X2 ⟨⟨k, u, rfl, hruns, hown⟩, hb⟩)
          replace A := hid (A.out.below hb A.out.lt)
          replace B := hid (B.out.below hb B.out.lt)
          replace D := hid (D.out.trans (hb.mono D.out.size))
          replace OL := hid (owns_below OL.out hb)
          have RK := hid hruns
          have OK := hid (owns_mono (B' := w.heap.size + 2) hown (by omega))
          replace hs : w.heap.size + 2 ≤ X2.heap.size := Nat.le_trans hs hb.size
          clear hruns hown hb
          refine wpAny_norm (n' := 8) (l' := #[true, true, true, true, false, false, false, false, false, false, false, false]) (a' := ⟨#[.agg (cellsOf S), .agg (cellsOf T), .pointer (some ⟨w.heap.size, 0, none⟩), .pointer (some ⟨w.heap.size + 1, 0, none⟩), .bool false, undef, undef, undef, undef, .agg (cellsOf S), v, .agg (cellsOf T), u, undef, undef, undef, undef, undef, undef, undef, undef, undef, undef, undef, undef, undef, undef, undef, undef, undef, undef, undef, undef, undef, undef, undef, undef, undef, undef], []⟩) (by kernel_rfl) (by kernel_rfl) (by kernel_rfl) ?_
          refine wpAny_ready (rs := [4, 9]) (by kernel_rfl) (by simp) ?_
          refine AllReady.cons rfl (fun K hK => ?_) ?_
          · obtain ⟨v3, X3, hr3, ho3, hb3, hg3⟩ := join_run (w.heap.size + 2) _ X2 v u l k OL.out OK.out hs (by have := RL.out.length (by unfold top; omega); have := RK.out.length (by unfold top; omega); unfold top at *; omega)
            refine step_append_run rfl _ _ 31 rfl _ _ _ _ rfl rfl hr3 (hK _ _ ?_)
            clear hK K
            replace A := hid (A.out.below hb3 (by omega))
            replace B := hid (B.out.below hb3 (by omega))
            replace D := hid (D.out.trans (hb3.mono (by omega)))
            have OJ := hid ho3
            replace hs : w.heap.size + 2 ≤ X3.heap.size := Nat.le_trans hs hb3.size
            clear hr3 ho3 hb3 hg3 OL OK
            refine wpAny_norm (n' := 7) (l' := #[true, true, true, true, true, false, false, false, false, false, false, false]) (a' := ⟨#[.agg (cellsOf S), .agg (cellsOf T), .pointer (some ⟨w.heap.size, 0, none⟩), .pointer (some ⟨w.heap.size + 1, 0, none⟩), .bool false, undef, undef, undef, undef, .agg (cellsOf S), v, .agg (cellsOf T), u, v3, undef, undef, undef, undef, undef, undef, undef, undef, undef, undef, undef, undef, undef, undef, undef, undef, undef, undef, undef, undef, undef, undef, undef, undef, undef], []⟩) (by kernel_rfl) (by kernel_rfl) (by kernel_rfl) ?_
            refine wpAny_ready (rs := [5, 9]) (by kernel_rfl) (by simp) ?_
            refine AllReady.cons rfl (fun K hK => ?_) ?_
            · go_simp
              go_wp2_with (go_at_call 8; refine (make_own OJ.out (by rw [List.length_append]; have := RL.out.length (by unfold top; omega); have := RK.out.length (by unfold top; omega); unfold top at *; omega) (fun p hp => by rcases List.mem_append.1 hp with h | h; exact RL.out.valid p h; exact RK.out.valid p h)).mono ?_; rintro e X4 ⟨rfl, hb⟩)
              clear OJ
              replace A := hid (A.out.below hb A.out.lt)
              replace B := hid (B.out.below hb B.out.lt)
              replace D := hid (D.out.trans (hb.mono D.out.size))
              replace hs : w.heap.size + 2 ≤ X4.heap.size := Nat.le_trans hs hb.size
              clear hb
              generalize hCS : cellsOf (Slot.ofList (l ++ k)) = CS
              refine wpAny_norm (n' := 6) (l' := #[true, true, true, true, true, true, false, false, false, false, false, false]) (a' := ⟨#[.agg (cellsOf S), .agg (cellsOf T), .pointer (some ⟨w.heap.size, 0, none⟩), .pointer (some ⟨w.heap.size + 1, 0, none⟩), .bool false, undef, undef, undef, undef, .agg (cellsOf S), v, .agg (cellsOf T), u, v3, .tuple #[.agg CS, .int .i64 0], undef, undef, undef, undef, undef, undef, undef, undef, undef, undef, undef, undef, undef, undef, undef, undef, undef, undef, undef, undef, undef, undef, undef, undef], []⟩) (by kernel_rfl) (by kernel_rfl) (by kernel_rfl) ?_
              refine wpAny_take (i := 6) (v := .tuple #[.agg CS, .int .i64 0]) rfl (by kernel_rfl) (by kernel_rfl) (by kernel_rfl) (fun _ _ _ h => h) (Or.inl ⟨by rfl, fun _ => by go_simp⟩) ?_
              refine wpAny_norm (n' := 5) (l' := #[true, true, true, true, true, true, true, false, false, false, false, false]) (a' := ⟨#[.agg (cellsOf S), .agg (cellsOf T), .pointer (some ⟨w.heap.size, 0, none⟩), .pointer (some ⟨w.heap.size + 1, 0, none⟩), .bool false, undef, undef, undef, .tuple #[.agg CS, .int .i64 0], .agg (cellsOf S), v, .agg (cellsOf T), u, v3, .tuple #[.agg CS, .int .i64 0], undef, undef, undef, undef, undef, undef, undef, undef, undef, undef, undef, undef, undef, undef, undef, undef, undef, undef, undef, undef, undef, undef, undef, undef], []⟩) (by kernel_rfl) (by kernel_rfl) (by kernel_rfl) ?_
              refine wpAny_take (i := 7) (v := .agg CS) rfl (by kernel_rfl) (by kernel_rfl) (by kernel_rfl) (fun _ _ _ h => h) (Or.inl ⟨by rfl, fun _ => by go_simp⟩) ?_
              refine wpAny_norm (n' := 4) (l' := #[true, true, true, true, true, true, true, true, false, false, false, false]) (a' := ⟨#[.agg (cellsOf S), .agg (cellsOf T), .pointer (some ⟨w.heap.size, 0, none⟩), .pointer (some ⟨w.heap.size + 1, 0, none⟩), .bool false, undef, undef, undef, .tuple #[.agg CS, .int .i64 0], .agg (cellsOf S), v, .agg (cellsOf T), u, v3, .tuple #[.agg CS, .int .i64 0], .agg CS, undef, undef, undef, undef, undef, undef, undef, undef, undef, undef, undef, undef, undef, undef, undef, undef, undef, undef, undef, undef, undef, undef, undef], []⟩) (by kernel_rfl) (by kernel_rfl) (by kernel_rfl) ?_
              refine wpAny_take (i := 8) (v := .int .i64 0) rfl (by kernel_rfl) (by kernel_rfl) (by kernel_rfl) (fun _ _ _ h => h) (Or.inl ⟨by rfl, fun _ => by go_simp⟩) ?_
              refine wpAny_norm (n' := 3) (l' := #[true, true, true, true, true, true, true, true, true, false, false, false]) (a' := ⟨#[.agg (cellsOf S), .agg (cellsOf T), .pointer (some ⟨w.heap.size, 0, none⟩), .pointer (some ⟨w.heap.size + 1, 0, none⟩), .bool false, undef, undef, undef, .tuple #[.agg CS, .int .i64 0], .agg (cellsOf S), v, .agg (cellsOf T), u, v3, .tuple #[.agg CS, .int .i64 0], .agg CS, .int .i64 0, undef, undef, undef, undef, undef, undef, undef, undef, undef, undef, undef, undef, undef, undef, undef, undef, undef, undef, undef, undef, undef, undef], []⟩) (by kernel_rfl) (by kernel_rfl) (by kernel_rfl) ?_
              refine wpAny_ready (rs := [9]) (by kernel_rfl) (by simp) ?_
              refine AllReady.cons rfl (fun K hK => ?_) ?_
              rotate_left
              · exact AllReady.nil
              go_simp
              refine hK _ _ ?_
              clear hK K
              have hb := below_alloc X4 (.cells (cellsOf fun _ => false) 25)
              replace A := hid (A.out.below hb A.out.lt)
              replace B := hid (B.out.below hb B.out.lt)
              replace D := hid (D.out.trans (hb.mono D.out.size))
              have Z := hid (box_new X4 (fun _ => false))
              have hb5 : w.heap.size + 2 ≤ X4.heap.size := hs
              replace hs : w.heap.size + 2 ≤ (X4.alloc (.cells (cellsOf fun _ => false) 25)).heap.size := Nat.le_trans hs hb.size
              clear hb
              generalize X4.alloc (.cells (cellsOf fun _ => false) 25) = X5 at A B D Z hs ⊢
              refine wpAny_norm (n' := 2) (l' := #[true, true, true, true, true, true, true, true, true, true, false, false]) (a' := ⟨#[.agg (cellsOf S), .agg (cellsOf T), .pointer (some ⟨w.heap.size, 0, none⟩), .pointer (some ⟨w.heap.size + 1, 0, none⟩), .bool false, .pointer (some ⟨X4.heap.size, 0, none⟩), undef, undef, .tuple #[.agg CS, .int .i64 0], .agg (cellsOf S), v, .agg (cellsOf T), u, v3, .tuple #[.agg CS, .int .i64 0], .agg CS, .int .i64 0, undef, undef, undef, undef, undef, undef, undef, undef, undef, undef, undef, undef, undef, undef, undef, undef, undef, undef, undef, undef, undef, undef], []⟩) (by kernel_rfl) (by kernel_rfl) (by kernel_rfl) ?_
              refine wpAny_ready (rs := [10]) (by kernel_rfl) (by simp) ?_
              refine AllReady.cons rfl (fun K hK => ?_) ?_
              rotate_left
              · exact AllReady.nil
              refine step_store rfl 25 _ _ rfl X4.heap.size CS rfl rfl 25 _ Z.out (by rw [← hCS]; exact infoBits _) (by rw [← hCS]; exact sizes _ _) (by rw [← hCS]; exact oneCells _) (hK _ _ ?_)
              clear hK K
              have CB : Hid (Box (X5.setRow X4.heap.size CS) X4.heap.size (Slot.ofList (l ++ k))) := by rw [← hCS]; exact box_size Z.out
              replace A : Hid (Box (X5.setRow X4.heap.size CS) w.heap.size S) := (setRow_other _ _ _ _ (by omega)).trans A.out
              replace B : Hid (Box (X5.setRow X4.heap.size CS) (w.heap.size + 1) T) := (setRow_other _ _ _ _ (by omega)).trans B.out
              replace D : Hid (Below w.heap.size w (X5.setRow X4.heap.size CS)) := below_setRow D.out (by omega) _
              clear Z hs
              generalize X5.setRow X4.heap.size CS = X6 at A B D CB ⊢
              refine wpAny_norm (n' := 1) (l' := #[true, true, true, true, true, true, true, true, true, true, true, false]) (a' := ⟨#[.agg (cellsOf S), .agg (cellsOf T), .pointer (some ⟨w.heap.size, 0, none⟩), .pointer (some ⟨w.heap.size + 1, 0, none⟩), .bool false, .pointer (some ⟨X4.heap.size, 0, none⟩), undef, undef, .tuple #[.agg CS, .int .i64 0], .agg (cellsOf S), v, .agg (cellsOf T), u, v3, .tuple #[.agg CS, .int .i64 0], .agg CS, .int .i64 0, undef, undef, undef, undef, undef, undef, undef, undef, undef, undef, undef, undef, undef, undef, undef, undef, undef, undef, undef, undef, undef, undef], []⟩) (by kernel_rfl) (by kernel_rfl) (by kernel_rfl) ?_
              refine wpAny_take (i := 11) (v := .int .i64 0) rfl (by kernel_rfl) (by kernel_rfl) (by kernel_rfl) (fun _ _ _ h => h) (Or.inl ⟨by rfl, fun _ => by go_simp⟩) ?_
              refine wpAny_norm (n' := 0) (l' := #[true, true, true, true, true, true, true, true, true, true, true, true]) (a' := ⟨#[.agg (cellsOf S), .agg (cellsOf T), .pointer (some ⟨w.heap.size, 0, none⟩), .pointer (some ⟨w.heap.size + 1, 0, none⟩), .bool false, .pointer (some ⟨X4.heap.size, 0, none⟩), .int .i64 0, undef, .tuple #[.agg CS, .int .i64 0], .agg (cellsOf S), v, .agg (cellsOf T), u, v3, .tuple #[.agg CS, .int .i64 0], .agg CS, .int .i64 0, undef, undef, undef, undef, undef, undef, undef, undef, undef, undef, undef, undef, undef, undef, undef, undef, undef, undef, undef, undef, undef, undef], []⟩) (by kernel_rfl) (by kernel_rfl) (by kernel_rfl) ?_
              refine wpAny_done (by kernel_rfl) ?_ _
              exact rest.out X4.heap.size X6 (Slot.ofList (l ++ k)) _ _ _ _ _ _ _ _ _ A.out B.out CB.out (fun n hn => by rw [ofList_append, RL.out.ofList n (Nat.zero_le _) hn, RK.out.ofList n (Nat.zero_le _) hn]) hb5 D.out
            refine AllReady.cons rfl (fun K hK => ?_) ?_
            rotate_left
            · exact AllReady.nil
            go_simp
            refine hK _ _ ?_
            clear hK K
            have hb := below_alloc X3 (.cells (cellsOf fun _ => false) 25)
            replace A := hid (A.out.below hb A.out.lt)
            replace B := hid (B.out.below hb B.out.lt)
            replace D := hid (D.out.trans (hb.mono D.out.size))
            replace OJ := hid (owns_below OJ.out hb)
            have Z := hid (box_new X3 (fun _ => false))
            have hb5 : w.heap.size + 2 ≤ X3.heap.size := hs
            replace hs : w.heap.size + 2 ≤ (X3.alloc (.cells (cellsOf fun _ => false) 25)).heap.size := Nat.le_trans hs hb.size
            clear hb
            generalize X3.alloc (.cells (cellsOf fun _ => false) 25) = X4 at A B D Z hs OJ ⊢
            refine wpAny_norm (n' := 6) (l' := #[true, true, true, true, true, false, false, false, false, true, false, false]) (a' := ⟨#[.agg (cellsOf S), .agg (cellsOf T), .pointer (some ⟨w.heap.size, 0, none⟩), .pointer (some ⟨w.heap.size + 1, 0, none⟩), .bool false, .pointer (some ⟨X3.heap.size, 0, none⟩), undef, undef, undef, .agg (cellsOf S), v, .agg (cellsOf T), u, v3, undef, undef, undef, undef, undef, undef, undef, undef, undef, undef, undef, undef, undef, undef, undef, undef, undef, undef, undef, undef, undef, undef, undef, undef, undef], []⟩) (by kernel_rfl) (by kernel_rfl) (by kernel_rfl) ?_
            refine wpAny_ready (rs := [5]) (by kernel_rfl) (by simp) ?_
            refine AllReady.cons rfl (fun K hK => ?_) ?_
            rotate_left
            · exact AllReady.nil
            go_simp
            go_wp2_with (go_at_call 8; refine (make_own OJ.out (by rw [List.length_append]; have := RL.out.length (by unfold top; omega); have := RK.out.length (by unfold top; omega); unfold top at *; omega) (fun p hp => by rcases List.mem_append.1 hp with h | h; exact RL.out.valid p h; exact RK.out.valid p h)).mono ?_; rintro e X5 ⟨rfl, hb⟩)
            clear OJ
            replace A := hid (A.out.below hb A.out.lt)
            replace B := hid (B.out.below hb B.out.lt)
            replace D := hid (D.out.trans (hb.mono D.out.size))
            replace Z := hid (Z.out.below hb Z.out.lt)
            replace hs : w.heap.size + 2 ≤ X5.heap.size := Nat.le_trans hs hb.size
            clear hb
            generalize hCS : cellsOf (Slot.ofList (l ++ k)) = CS
            refine wpAny_norm (n' := 5) (l' := #[true, true, true, true, true, true, false, false, false, true, false, false]) (a' := ⟨#[.agg (cellsOf S), .agg (cellsOf T), .pointer (some ⟨w.heap.size, 0, none⟩), .pointer (some ⟨w.heap.size + 1, 0, none⟩), .bool false, .pointer (some ⟨X3.heap.size, 0, none⟩), undef, undef, undef, .agg (cellsOf S), v, .agg (cellsOf T), u, v3, .tuple #[.agg CS, .int .i64 0], undef, undef, undef, undef, undef, undef, undef, undef, undef, undef, undef, undef, undef, undef, undef, undef, undef, undef, undef, undef, undef, undef, undef, undef], []⟩) (by kernel_rfl) (by kernel_rfl) (by kernel_rfl) ?_
            refine wpAny_take (i := 6) (v := .tuple #[.agg CS, .int .i64 0]) rfl (by kernel_rfl) (by kernel_rfl) (by kernel_rfl) (fun _ _ _ h => h) (Or.inl ⟨by rfl, fun _ => by go_simp⟩) ?_
            refine wpAny_norm (n' := 4) (l' := #[true, true, true, true, true, true, true, false, false, true, false, false]) (a' := ⟨#[.agg (cellsOf S), .agg (cellsOf T), .pointer (some ⟨w.heap.size, 0, none⟩), .pointer (some ⟨w.heap.size + 1, 0, none⟩), .bool false, .pointer (some ⟨X3.heap.size, 0, none⟩), undef, undef, .tuple #[.agg CS, .int .i64 0], .agg (cellsOf S), v, .agg (cellsOf T), u, v3, .tuple #[.agg CS, .int .i64 0], undef, undef, undef, undef, undef, undef, undef, undef, undef, undef, undef, undef, undef, undef, undef, undef, undef, undef, undef, undef, undef, undef, undef, undef], []⟩) (by kernel_rfl) (by kernel_rfl) (by kernel_rfl) ?_
            refine wpAny_take (i := 7) (v := .agg CS) rfl (by kernel_rfl) (by kernel_rfl) (by kernel_rfl) (fun _ _ _ h => h) (Or.inl ⟨by rfl, fun _ => by go_simp⟩) ?_
            refine wpAny_norm (n' := 3) (l' := #[true, true, true, true, true, true, true, true, false, true, false, false]) (a' := ⟨#[.agg (cellsOf S), .agg (cellsOf T), .pointer (some ⟨w.heap.size, 0, none⟩), .pointer (some ⟨w.heap.size + 1, 0, none⟩), .bool false, .pointer (some ⟨X3.heap.size, 0, none⟩), undef, undef, .tuple #[.agg CS, .int .i64 0], .agg (cellsOf S), v, .agg (cellsOf T), u, v3, .tuple #[.agg CS, .int .i64 0], .agg CS, undef, undef, undef, undef, undef, undef, undef, undef, undef, undef, undef, undef, undef, undef, undef, undef, undef, undef, undef, undef, undef, undef, undef], []⟩) (by kernel_rfl) (by kernel_rfl) (by kernel_rfl) ?_
            refine wpAny_take (i := 8) (v := .int .i64 0) rfl (by kernel_rfl) (by kernel_rfl) (by kernel_rfl) (fun _ _ _ h => h) (Or.inl ⟨by rfl, fun _ => by go_simp⟩) ?_
            refine wpAny_norm (n' := 2) (l' := #[true, true, true, true, true, true, true, true, true, true, false, false]) (a' := ⟨#[.agg (cellsOf S), .agg (cellsOf T), .pointer (some ⟨w.heap.size, 0, none⟩), .pointer (some ⟨w.heap.size + 1, 0, none⟩), .bool false, .pointer (some ⟨X3.heap.size, 0, none⟩), undef, undef, .tuple #[.agg CS, .int .i64 0], .agg (cellsOf S), v, .agg (cellsOf T), u, v3, .tuple #[.agg CS, .int .i64 0], .agg CS, .int .i64 0, undef, undef, undef, undef, undef, undef, undef, undef, undef, undef, undef, undef, undef, undef, undef, undef, undef, undef, undef, undef, undef, undef], []⟩) (by kernel_rfl) (by kernel_rfl) (by kernel_rfl) ?_
            refine wpAny_ready (rs := [10]) (by kernel_rfl) (by simp) ?_
            refine AllReady.cons rfl (fun K hK => ?_) ?_
            rotate_left
            · exact AllReady.nil
            refine step_store rfl 25 _ _ rfl X3.heap.size CS rfl rfl 25 _ Z.out (by rw [← hCS]; exact infoBits _) (by rw [← hCS]; exact sizes _ _) (by rw [← hCS]; exact oneCells _) (hK _ _ ?_)
            clear hK K
            have CB : Hid (Box (X5.setRow X3.heap.size CS) X3.heap.size (Slot.ofList (l ++ k))) := by rw [← hCS]; exact box_size Z.out
            replace A : Hid (Box (X5.setRow X3.heap.size CS) w.heap.size S) := (setRow_other _ _ _ _ (by omega)).trans A.out
            replace B : Hid (Box (X5.setRow X3.heap.size CS) (w.heap.size + 1) T) := (setRow_other _ _ _ _ (by omega)).trans B.out
            replace D : Hid (Below w.heap.size w (X5.setRow X3.heap.size CS)) := below_setRow D.out (by omega) _
            clear Z hs
            generalize X5.setRow X3.heap.size CS = X6 at A B D CB ⊢
            refine wpAny_norm (n' := 1) (l' := #[true, true, true, true, true, true, true, true, true, true, true, false]) (a' := ⟨#[.agg (cellsOf S), .agg (cellsOf T), .pointer (some ⟨w.heap.size, 0, none⟩), .pointer (some ⟨w.heap.size + 1, 0, none⟩), .bool false, .pointer (some ⟨X3.heap.size, 0, none⟩), undef, undef, .tuple #[.agg CS, .int .i64 0], .agg (cellsOf S), v, .agg (cellsOf T), u, v3, .tuple #[.agg CS, .int .i64 0], .agg CS, .int .i64 0, undef, undef, undef, undef, undef, undef, undef, undef, undef, undef, undef, undef, undef, undef, undef, undef, undef, undef, undef, undef, undef, undef], []⟩) (by kernel_rfl) (by kernel_rfl) (by kernel_rfl) ?_
            refine wpAny_take (i := 11) (v := .int .i64 0) rfl (by kernel_rfl) (by kernel_rfl) (by kernel_rfl) (fun _ _ _ h => h) (Or.inl ⟨by rfl, fun _ => by go_simp⟩) ?_
            refine wpAny_norm (n' := 0) (l' := #[true, true, true, true, true, true, true, true, true, true, true, true]) (a' := ⟨#[.agg (cellsOf S), .agg (cellsOf T), .pointer (some ⟨w.heap.size, 0, none⟩), .pointer (some ⟨w.heap.size + 1, 0, none⟩), .bool false, .pointer (some ⟨X3.heap.size, 0, none⟩), .int .i64 0, undef, .tuple #[.agg CS, .int .i64 0], .agg (cellsOf S), v, .agg (cellsOf T), u, v3, .tuple #[.agg CS, .int .i64 0], .agg CS, .int .i64 0, undef, undef, undef, undef, undef, undef, undef, undef, undef, undef, undef, undef, undef, undef, undef, undef, undef, undef, undef, undef, undef, undef], []⟩) (by kernel_rfl) (by kernel_rfl) (by kernel_rfl) ?_
            refine wpAny_done (by kernel_rfl) ?_ _
            exact rest.out X3.heap.size X6 (Slot.ofList (l ++ k)) _ _ _ _ _ _ _ _ _ A.out B.out CB.out (fun n hn => by rw [ofList_append, RL.out.ofList n (Nat.zero_le _) hn, RK.out.ofList n (Nat.zero_le _) hn]) hb5 D.out
          refine AllReady.cons rfl (fun K hK => ?_) ?_
          rotate_left
          · exact AllReady.nil
          go_simp
          refine hK _ _ ?_
          clear hK K
          have hb := below_alloc X2 (.cells (cellsOf fun _ => false) 25)
          have ZN : Hid (∀ q, v.ownBlock = some q → q ≠ X2.heap.size) := fun q hq => by have := (World.ownsRow.lt OL.out q hq).2; omega
          replace A := hid (A.out.below hb A.out.lt)
          replace B := hid (B.out.below hb B.out.lt)
          replace D := hid (D.out.trans (hb.mono D.out.size))
          replace OL := hid (owns_below OL.out hb)
          replace OK := hid (owns_below OK.out hb)
          have Z := hid (box_new X2 (fun _ => false))
          have hb5 : w.heap.size + 2 ≤ X2.heap.size := hs
          replace hs : w.heap.size + 2 ≤ (X2.alloc (.cells (cellsOf fun _ => false) 25)).heap.size := Nat.le_trans hs hb.size
          clear hb
          generalize X2.alloc (.cells (cellsOf fun _ => false) 25) = X3 at A B D Z hs OL OK ⊢
          refine wpAny_norm (n' := 7) (l' := #[true, true, true, true, false, false, false, false, false, true, false, false]) (a' := ⟨#[.agg (cellsOf S), .agg (cellsOf T), .pointer (some ⟨w.heap.size, 0, none⟩), .pointer (some ⟨w.heap.size + 1, 0, none⟩), .bool false, .pointer (some ⟨X2.heap.size, 0, none⟩), undef, undef, undef, .agg (cellsOf S), v, .agg (cellsOf T), u, undef, undef, undef, undef, undef, undef, undef, undef, undef, undef, undef, undef, undef, undef, undef, undef, undef, undef, undef, undef, undef, undef, undef, undef, undef, undef], []⟩) (by kernel_rfl) (by kernel_rfl) (by kernel_rfl) ?_
          refine wpAny_ready (rs := [4]) (by kernel_rfl) (by simp) ?_
          refine AllReady.cons rfl (fun K hK => ?_) ?_
          rotate_left
          · exact AllReady.nil
          obtain ⟨v3, X4, hr3, ho3, hb3, hg3⟩ := join_run (w.heap.size + 2) _ X3 v u l k OL.out OK.out hs (by have := RL.out.length (by unfold top; omega); have := RK.out.length (by unfold top; omega); unfold top at *; omega)
          refine step_append_run rfl _ _ 31 rfl _ _ _ _ rfl rfl hr3 (hK _ _ ?_)
          clear hK K
          replace A := hid (A.out.below hb3 (by omega))
          replace B := hid (B.out.below hb3 (by omega))
          replace D := hid (D.out.trans (hb3.mono (by omega)))
          replace Z := hid (box_grown Z.out hg3 ZN.out)
          have OJ := hid ho3
          replace hs : w.heap.size + 2 ≤ X4.heap.size := Nat.le_trans hs hb3.size
          clear hr3 ho3 hb3 hg3 OL OK
          refine wpAny_norm (n' := 6) (l' := #[true, true, true, true, true, false, false, false, false, true, false, false]) (a' := ⟨#[.agg (cellsOf S), .agg (cellsOf T), .pointer (some ⟨w.heap.size, 0, none⟩), .pointer (some ⟨w.heap.size + 1, 0, none⟩), .bool false, .pointer (some ⟨X2.heap.size, 0, none⟩), undef, undef, undef, .agg (cellsOf S), v, .agg (cellsOf T), u, v3, undef, undef, undef, undef, undef, undef, undef, undef, undef, undef, undef, undef, undef, undef, undef, undef, undef, undef, undef, undef, undef, undef, undef, undef, undef], []⟩) (by kernel_rfl) (by kernel_rfl) (by kernel_rfl) ?_
          refine wpAny_ready (rs := [5]) (by kernel_rfl) (by simp) ?_
          refine AllReady.cons rfl (fun K hK => ?_) ?_
          rotate_left
          · exact AllReady.nil
          go_simp
          go_wp2_with (go_at_call 8; refine (make_own OJ.out (by rw [List.length_append]; have := RL.out.length (by unfold top; omega); have := RK.out.length (by unfold top; omega); unfold top at *; omega) (fun p hp => by rcases List.mem_append.1 hp with h | h; exact RL.out.valid p h; exact RK.out.valid p h)).mono ?_; rintro e X5 ⟨rfl, hb⟩)
          clear OJ
          replace A := hid (A.out.below hb A.out.lt)
          replace B := hid (B.out.below hb B.out.lt)
          replace D := hid (D.out.trans (hb.mono D.out.size))
          replace Z := hid (Z.out.below hb Z.out.lt)
          replace hs : w.heap.size + 2 ≤ X5.heap.size := Nat.le_trans hs hb.size
          clear hb
          generalize hCS : cellsOf (Slot.ofList (l ++ k)) = CS
          refine wpAny_norm (n' := 5) (l' := #[true, true, true, true, true, true, false, false, false, true, false, false]) (a' := ⟨#[.agg (cellsOf S), .agg (cellsOf T), .pointer (some ⟨w.heap.size, 0, none⟩), .pointer (some ⟨w.heap.size + 1, 0, none⟩), .bool false, .pointer (some ⟨X2.heap.size, 0, none⟩), undef, undef, undef, .agg (cellsOf S), v, .agg (cellsOf T), u, v3, .tuple #[.agg CS, .int .i64 0], undef, undef, undef, undef, undef, undef, undef, undef, undef, undef, undef, undef, undef, undef, undef, undef, undef, undef, undef, undef, undef, undef, undef, undef], []⟩) (by kernel_rfl) (by kernel_rfl) (by kernel_rfl) ?_
          refine wpAny_take (i := 6) (v := .tuple #[.agg CS, .int .i64 0]) rfl (by kernel_rfl) (by kernel_rfl) (by kernel_rfl) (fun _ _ _ h => h) (Or.inl ⟨by rfl, fun _ => by go_simp⟩) ?_
          refine wpAny_norm (n' := 4) (l' := #[true, true, true, true, true, true, true, false, false, true, false, false]) (a' := ⟨#[.agg (cellsOf S), .agg (cellsOf T), .pointer (some ⟨w.heap.size, 0, none⟩), .pointer (some ⟨w.heap.size + 1, 0, none⟩), .bool false, .pointer (some ⟨X2.heap.size, 0, none⟩), undef, undef, .tuple #[.agg CS, .int .i64 0], .agg (cellsOf S), v, .agg (cellsOf T), u, v3, .tuple #[.agg CS, .int .i64 0], undef, undef, undef, undef, undef, undef, undef, undef, undef, undef, undef, undef, undef, undef, undef, undef, undef, undef, undef, undef, undef, undef, undef, undef], []⟩) (by kernel_rfl) (by kernel_rfl) (by kernel_rfl) ?_
          refine wpAny_take (i := 7) (v := .agg CS) rfl (by kernel_rfl) (by kernel_rfl) (by kernel_rfl) (fun _ _ _ h => h) (Or.inl ⟨by rfl, fun _ => by go_simp⟩) ?_
          refine wpAny_norm (n' := 3) (l' := #[true, true, true, true, true, true, true, true, false, true, false, false]) (a' := ⟨#[.agg (cellsOf S), .agg (cellsOf T), .pointer (some ⟨w.heap.size, 0, none⟩), .pointer (some ⟨w.heap.size + 1, 0, none⟩), .bool false, .pointer (some ⟨X2.heap.size, 0, none⟩), undef, undef, .tuple #[.agg CS, .int .i64 0], .agg (cellsOf S), v, .agg (cellsOf T), u, v3, .tuple #[.agg CS, .int .i64 0], .agg CS, undef, undef, undef, undef, undef, undef, undef, undef, undef, undef, undef, undef, undef, undef, undef, undef, undef, undef, undef, undef, undef, undef, undef], []⟩) (by kernel_rfl) (by kernel_rfl) (by kernel_rfl) ?_
          refine wpAny_take (i := 8) (v := .int .i64 0) rfl (by kernel_rfl) (by kernel_rfl) (by kernel_rfl) (fun _ _ _ h => h) (Or.inl ⟨by rfl, fun _ => by go_simp⟩) ?_
          refine wpAny_norm (n' := 2) (l' := #[true, true, true, true, true, true, true, true, true, true, false, false]) (a' := ⟨#[.agg (cellsOf S), .agg (cellsOf T), .pointer (some ⟨w.heap.size, 0, none⟩), .pointer (some ⟨w.heap.size + 1, 0, none⟩), .bool false, .pointer (some ⟨X2.heap.size, 0, none⟩), undef, undef, .tuple #[.agg CS, .int .i64 0], .agg (cellsOf S), v, .agg (cellsOf T), u, v3, .tuple #[.agg CS, .int .i64 0], .agg CS, .int .i64 0, undef, undef, undef, undef, undef, undef, undef, undef, undef, undef, undef, undef, undef, undef, undef, undef, undef, undef, undef, undef, undef, undef], []⟩) (by kernel_rfl) (by kernel_rfl) (by kernel_rfl) ?_
          refine wpAny_ready (rs := [10]) (by kernel_rfl) (by simp) ?_
          refine AllReady.cons rfl (fun K hK => ?_) ?_
          rotate_left
          · exact AllReady.nil
          refine step_store rfl 25 _ _ rfl X2.heap.size CS rfl rfl 25 _ Z.out (by rw [← hCS]; exact infoBits _) (by rw [← hCS]; exact sizes _ _) (by rw [← hCS]; exact oneCells _) (hK _ _ ?_)
          clear hK K
          have CB : Hid (Box (X5.setRow X2.heap.size CS) X2.heap.size (Slot.ofList (l ++ k))) := by rw [← hCS]; exact box_size Z.out
          replace A : Hid (Box (X5.setRow X2.heap.size CS) w.heap.size S) := (setRow_other _ _ _ _ (by omega)).trans A.out
          replace B : Hid (Box (X5.setRow X2.heap.size CS) (w.heap.size + 1) T) := (setRow_other _ _ _ _ (by omega)).trans B.out
          replace D : Hid (Below w.heap.size w (X5.setRow X2.heap.size CS)) := below_setRow D.out (by omega) _
          clear Z hs
          generalize X5.setRow X2.heap.size CS = X6 at A B D CB ⊢
          refine wpAny_norm (n' := 1) (l' := #[true, true, true, true, true, true, true, true, true, true, true, false]) (a' := ⟨#[.agg (cellsOf S), .agg (cellsOf T), .pointer (some ⟨w.heap.size, 0, none⟩), .pointer (some ⟨w.heap.size + 1, 0, none⟩), .bool false, .pointer (some ⟨X2.heap.size, 0, none⟩), undef, undef, .tuple #[.agg CS, .int .i64 0], .agg (cellsOf S), v, .agg (cellsOf T), u, v3, .tuple #[.agg CS, .int .i64 0], .agg CS, .int .i64 0, undef, undef, undef, undef, undef, undef, undef, undef, undef, undef, undef, undef, undef, undef, undef, undef, undef, undef, undef, undef, undef, undef], []⟩) (by kernel_rfl) (by kernel_rfl) (by kernel_rfl) ?_
          refine wpAny_take (i := 11) (v := .int .i64 0) rfl (by kernel_rfl) (by kernel_rfl) (by kernel_rfl) (fun _ _ _ h => h) (Or.inl ⟨by rfl, fun _ => by go_simp⟩) ?_
          refine wpAny_norm (n' := 0) (l' := #[true, true, true, true, true, true, true, true, true, true, true, true]) (a' := ⟨#[.agg (cellsOf S), .agg (cellsOf T), .pointer (some ⟨w.heap.size, 0, none⟩), .pointer (some ⟨w.heap.size + 1, 0, none⟩), .bool false, .pointer (some ⟨X2.heap.size, 0, none⟩), .int .i64 0, undef, .tuple #[.agg CS, .int .i64 0], .agg (cellsOf S), v, .agg (cellsOf T), u, v3, .tuple #[.agg CS, .int .i64 0], .agg CS, .int .i64 0, undef, undef, undef, undef, undef, undef, undef, undef, undef, undef, undef, undef, undef, undef, undef, undef, undef, undef, undef, undef, undef, undef], []⟩) (by kernel_rfl) (by kernel_rfl) (by kernel_rfl) ?_
          refine wpAny_done (by kernel_rfl) ?_ _
          exact rest.out X2.heap.size X6 (Slot.ofList (l ++ k)) _ _ _ _ _ _ _ _ _ A.out B.out CB.out (fun n hn => by rw [ofList_append, RL.out.ofList n (Nat.zero_le _) hn, RK.out.ofList n (Nat.zero_le _) hn]) hb5 D.out
        refine AllReady.cons rfl (fun K hK => ?_) ?_
        rotate_left
        · exact AllReady.nil
        go_simp
        refine hK _ _ ?_
        clear hK K
        have hb := below_alloc X1 (.cells (cellsOf fun _ => false) 25)
        have ZN : Hid (∀ q, v.ownBlock = some q → q ≠ X1.heap.size) := fun q hq => by have := (World.ownsRow.lt OL.out q hq).2; omega
        replace A := hid (A.out.below hb A.out.lt)
        replace B := hid (B.out.below hb B.out.lt)
        replace D := hid (D.out.trans (hb.mono D.out.size))
        replace OL := hid (owns_below OL.out hb)
        have Z := hid (box_new X1 (fun _ => false))
        have hb5 : w.heap.size + 2 ≤ X1.heap.size := hs
        replace hs : w.heap.size + 2 ≤ (X1.alloc (.cells (cellsOf fun _ => false) 25)).heap.size := Nat.le_trans hs hb.size
        clear hb
        generalize X1.alloc (.cells (cellsOf fun _ => false) 25) = X2 at A B D Z hs OL ⊢
        refine wpAny_norm (n' := 8) (l' := #[true, true, true, false, false, false, false, false, false, true, false, false]) (a' := ⟨#[.agg (cellsOf S), .agg (cellsOf T), .pointer (some ⟨w.heap.size, 0, none⟩), .pointer (some ⟨w.heap.size + 1, 0, none⟩), .bool false, .pointer (some ⟨X1.heap.size, 0, none⟩), undef, undef, undef, .agg (cellsOf S), v, .agg (cellsOf T), undef, undef, undef, undef, undef, undef, undef, undef, undef, undef, undef, undef, undef, undef, undef, undef, undef, undef, undef, undef, undef, undef, undef, undef, undef, undef, undef], []⟩) (by kernel_rfl) (by kernel_rfl) (by kernel_rfl) ?_
        refine wpAny_ready (rs := [3]) (by kernel_rfl) (by simp) ?_
        refine AllReady.cons rfl (fun K hK => ?_) ?_
        rotate_left
        · exact AllReady.nil
        go_simp
        go_wp2_with (go_at_call 9; refine (HRb.out _).mono ?_; rintro e X3 ⟨⟨k, u, rfl, hruns, hown⟩, hb⟩)
        replace A := hid (A.out.below hb A.out.lt)
        replace B := hid (B.out.below hb B.out.lt)
        replace D := hid (D.out.trans (hb.mono D.out.size))
        replace Z := hid (Z.out.below hb Z.out.lt)
        replace OL := hid (owns_below OL.out hb)
        have RK := hid hruns
        have OK := hid (owns_mono (B' := w.heap.size + 2) hown (by omega))
        replace hs : w.heap.size + 2 ≤ X3.heap.size := Nat.le_trans hs hb.size
        clear hruns hown hb
        refine wpAny_norm (n' := 7) (l' := #[true, true, true, true, false, false, false, false, false, true, false, false]) (a' := ⟨#[.agg (cellsOf S), .agg (cellsOf T), .pointer (some ⟨w.heap.size, 0, none⟩), .pointer (some ⟨w.heap.size + 1, 0, none⟩), .bool false, .pointer (some ⟨X1.heap.size, 0, none⟩), undef, undef, undef, .agg (cellsOf S), v, .agg (cellsOf T), u, undef, undef, undef, undef, undef, undef, undef, undef, undef, undef, undef, undef, undef, undef, undef, undef, undef, undef, undef, undef, undef, undef, undef, undef, undef, undef], []⟩) (by kernel_rfl) (by kernel_rfl) (by kernel_rfl) ?_
        refine wpAny_ready (rs := [4]) (by kernel_rfl) (by simp) ?_
        refine AllReady.cons rfl (fun K hK => ?_) ?_
        rotate_left
        · exact AllReady.nil
        obtain ⟨v3, X4, hr3, ho3, hb3, hg3⟩ := join_run (w.heap.size + 2) _ X3 v u l k OL.out OK.out hs (by have := RL.out.length (by unfold top; omega); have := RK.out.length (by unfold top; omega); unfold top at *; omega)
        refine step_append_run rfl _ _ 31 rfl _ _ _ _ rfl rfl hr3 (hK _ _ ?_)
        clear hK K
        replace A := hid (A.out.below hb3 (by omega))
        replace B := hid (B.out.below hb3 (by omega))
        replace D := hid (D.out.trans (hb3.mono (by omega)))
        replace Z := hid (box_grown Z.out hg3 ZN.out)
        have OJ := hid ho3
        replace hs : w.heap.size + 2 ≤ X4.heap.size := Nat.le_trans hs hb3.size
        clear hr3 ho3 hb3 hg3 OL OK
        refine wpAny_norm (n' := 6) (l' := #[true, true, true, true, true, false, false, false, false, true, false, false]) (a' := ⟨#[.agg (cellsOf S), .agg (cellsOf T), .pointer (some ⟨w.heap.size, 0, none⟩), .pointer (some ⟨w.heap.size + 1, 0, none⟩), .bool false, .pointer (some ⟨X1.heap.size, 0, none⟩), undef, undef, undef, .agg (cellsOf S), v, .agg (cellsOf T), u, v3, undef, undef, undef, undef, undef, undef, undef, undef, undef, undef, undef, undef, undef, undef, undef, undef, undef, undef, undef, undef, undef, undef, undef, undef, undef], []⟩) (by kernel_rfl) (by kernel_rfl) (by kernel_rfl) ?_
        refine wpAny_ready (rs := [5]) (by kernel_rfl) (by simp) ?_
        refine AllReady.cons rfl (fun K hK => ?_) ?_
        rotate_left
        · exact AllReady.nil
        go_simp
        go_wp2_with (go_at_call 8; refine (make_own OJ.out (by rw [List.length_append]; have := RL.out.length (by unfold top; omega); have := RK.out.length (by unfold top; omega); unfold top at *; omega) (fun p hp => by rcases List.mem_append.1 hp with h | h; exact RL.out.valid p h; exact RK.out.valid p h)).mono ?_; rintro e X5 ⟨rfl, hb⟩)
        clear OJ
        replace A := hid (A.out.below hb A.out.lt)
        replace B := hid (B.out.below hb B.out.lt)
        replace D := hid (D.out.trans (hb.mono D.out.size))
        replace Z := hid (Z.out.below hb Z.out.lt)
        replace hs : w.heap.size + 2 ≤ X5.heap.size := Nat.le_trans hs hb.size
        clear hb
        generalize hCS : cellsOf (Slot.ofList (l ++ k)) = CS
        refine wpAny_norm (n' := 5) (l' := #[true, true, true, true, true, true, false, false, false, true, false, false]) (a' := ⟨#[.agg (cellsOf S), .agg (cellsOf T), .pointer (some ⟨w.heap.size, 0, none⟩), .pointer (some ⟨w.heap.size + 1, 0, none⟩), .bool false, .pointer (some ⟨X1.heap.size, 0, none⟩), undef, undef, undef, .agg (cellsOf S), v, .agg (cellsOf T), u, v3, .tuple #[.agg CS, .int .i64 0], undef, undef, undef, undef, undef, undef, undef, undef, undef, undef, undef, undef, undef, undef, undef, undef, undef, undef, undef, undef, undef, undef, undef, undef], []⟩) (by kernel_rfl) (by kernel_rfl) (by kernel_rfl) ?_
        refine wpAny_take (i := 6) (v := .tuple #[.agg CS, .int .i64 0]) rfl (by kernel_rfl) (by kernel_rfl) (by kernel_rfl) (fun _ _ _ h => h) (Or.inl ⟨by rfl, fun _ => by go_simp⟩) ?_
        refine wpAny_norm (n' := 4) (l' := #[true, true, true, true, true, true, true, false, false, true, false, false]) (a' := ⟨#[.agg (cellsOf S), .agg (cellsOf T), .pointer (some ⟨w.heap.size, 0, none⟩), .pointer (some ⟨w.heap.size + 1, 0, none⟩), .bool false, .pointer (some ⟨X1.heap.size, 0, none⟩), undef, undef, .tuple #[.agg CS, .int .i64 0], .agg (cellsOf S), v, .agg (cellsOf T), u, v3, .tuple #[.agg CS, .int .i64 0], undef, undef, undef, undef, undef, undef, undef, undef, undef, undef, undef, undef, undef, undef, undef, undef, undef, undef, undef, undef, undef, undef, undef, undef], []⟩) (by kernel_rfl) (by kernel_rfl) (by kernel_rfl) ?_
        refine wpAny_take (i := 7) (v := .agg CS) rfl (by kernel_rfl) (by kernel_rfl) (by kernel_rfl) (fun _ _ _ h => h) (Or.inl ⟨by rfl, fun _ => by go_simp⟩) ?_
        refine wpAny_norm (n' := 3) (l' := #[true, true, true, true, true, true, true, true, false, true, false, false]) (a' := ⟨#[.agg (cellsOf S), .agg (cellsOf T), .pointer (some ⟨w.heap.size, 0, none⟩), .pointer (some ⟨w.heap.size + 1, 0, none⟩), .bool false, .pointer (some ⟨X1.heap.size, 0, none⟩), undef, undef, .tuple #[.agg CS, .int .i64 0], .agg (cellsOf S), v, .agg (cellsOf T), u, v3, .tuple #[.agg CS, .int .i64 0], .agg CS, undef, undef, undef, undef, undef, undef, undef, undef, undef, undef, undef, undef, undef, undef, undef, undef, undef, undef, undef, undef, undef, undef, undef], []⟩) (by kernel_rfl) (by kernel_rfl) (by kernel_rfl) ?_
        refine wpAny_take (i := 8) (v := .int .i64 0) rfl (by kernel_rfl) (by kernel_rfl) (by kernel_rfl) (fun _ _ _ h => h) (Or.inl ⟨by rfl, fun _ => by go_simp⟩) ?_
        refine wpAny_norm (n' := 2) (l' := #[true, true, true, true, true, true, true, true, true, true, false, false]) (a' := ⟨#[.agg (cellsOf S), .agg (cellsOf T), .pointer (some ⟨w.heap.size, 0, none⟩), .pointer (some ⟨w.heap.size + 1, 0, none⟩), .bool false, .pointer (some ⟨X1.heap.size, 0, none⟩), undef, undef, .tuple #[.agg CS, .int .i64 0], .agg (cellsOf S), v, .agg (cellsOf T), u, v3, .tuple #[.agg CS, .int .i64 0], .agg CS, .int .i64 0, undef, undef, undef, undef, undef, undef, undef, undef, undef, undef, undef, undef, undef, undef, undef, undef, undef, undef, undef, undef, undef, undef], []⟩) (by kernel_rfl) (by kernel_rfl) (by kernel_rfl) ?_
        refine wpAny_ready (rs := [10]) (by kernel_rfl) (by simp) ?_
        refine AllReady.cons rfl (fun K hK => ?_) ?_
        rotate_left
        · exact AllReady.nil
        refine step_store rfl 25 _ _ rfl X1.heap.size CS rfl rfl 25 _ Z.out (by rw [← hCS]; exact infoBits _) (by rw [← hCS]; exact sizes _ _) (by rw [← hCS]; exact oneCells _) (hK _ _ ?_)
        clear hK K
        have CB : Hid (Box (X5.setRow X1.heap.size CS) X1.heap.size (Slot.ofList (l ++ k))) := by rw [← hCS]; exact box_size Z.out
        replace A : Hid (Box (X5.setRow X1.heap.size CS) w.heap.size S) := (setRow_other _ _ _ _ (by omega)).trans A.out
        replace B : Hid (Box (X5.setRow X1.heap.size CS) (w.heap.size + 1) T) := (setRow_other _ _ _ _ (by omega)).trans B.out
        replace D : Hid (Below w.heap.size w (X5.setRow X1.heap.size CS)) := below_setRow D.out (by omega) _
        clear Z hs
        generalize X5.setRow X1.heap.size CS = X6 at A B D CB ⊢
        refine wpAny_norm (n' := 1) (l' := #[true, true, true, true, true, true, true, true, true, true, true, false]) (a' := ⟨#[.agg (cellsOf S), .agg (cellsOf T), .pointer (some ⟨w.heap.size, 0, none⟩), .pointer (some ⟨w.heap.size + 1, 0, none⟩), .bool false, .pointer (some ⟨X1.heap.size, 0, none⟩), undef, undef, .tuple #[.agg CS, .int .i64 0], .agg (cellsOf S), v, .agg (cellsOf T), u, v3, .tuple #[.agg CS, .int .i64 0], .agg CS, .int .i64 0, undef, undef, undef, undef, undef, undef, undef, undef, undef, undef, undef, undef, undef, undef, undef, undef, undef, undef, undef, undef, undef, undef], []⟩) (by kernel_rfl) (by kernel_rfl) (by kernel_rfl) ?_
        refine wpAny_take (i := 11) (v := .int .i64 0) rfl (by kernel_rfl) (by kernel_rfl) (by kernel_rfl) (fun _ _ _ h => h) (Or.inl ⟨by rfl, fun _ => by go_simp⟩) ?_
        refine wpAny_norm (n' := 0) (l' := #[true, true, true, true, true, true, true, true, true, true, true, true]) (a' := ⟨#[.agg (cellsOf S), .agg (cellsOf T), .pointer (some ⟨w.heap.size, 0, none⟩), .pointer (some ⟨w.heap.size + 1, 0, none⟩), .bool false, .pointer (some ⟨X1.heap.size, 0, none⟩), .int .i64 0, undef, .tuple #[.agg CS, .int .i64 0], .agg (cellsOf S), v, .agg (cellsOf T), u, v3, .tuple #[.agg CS, .int .i64 0], .agg CS, .int .i64 0, undef, undef, undef, undef, undef, undef, undef, undef, undef, undef, undef, undef, undef, undef, undef, undef, undef, undef, undef, undef, undef, undef], []⟩) (by kernel_rfl) (by kernel_rfl) (by kernel_rfl) ?_
        refine wpAny_done (by kernel_rfl) ?_ _
        exact rest.out X1.heap.size X6 (Slot.ofList (l ++ k)) _ _ _ _ _ _ _ _ _ A.out B.out CB.out (fun n hn => by rw [ofList_append, RL.out.ofList n (Nat.zero_le _) hn, RK.out.ofList n (Nat.zero_le _) hn]) hb5 D.out
      refine AllReady.cons rfl (fun K hK => ?_) ?_
      rotate_left
      · exact AllReady.nil
      go_simp
      refine hK _ _ ?_
      clear hK K
      have hb := below_alloc X1 (.cells (cellsOf fun _ => false) 25)
      have ZN : Hid (∀ q, v.ownBlock = some q → q ≠ X1.heap.size) := fun q hq => by have := (World.ownsRow.lt OL.out q hq).2; omega
      replace A := hid (A.out.below hb A.out.lt)
      replace B := hid (B.out.below hb B.out.lt)
      replace D := hid (D.out.trans (hb.mono D.out.size))
      replace OL := hid (owns_below OL.out hb)
      have Z := hid (box_new X1 (fun _ => false))
      have hb5 : w.heap.size + 2 ≤ X1.heap.size := hs
      replace hs : w.heap.size + 2 ≤ (X1.alloc (.cells (cellsOf fun _ => false) 25)).heap.size := Nat.le_trans hs hb.size
      clear hb
      generalize X1.alloc (.cells (cellsOf fun _ => false) 25) = X2 at A B D Z hs OL ⊢
      refine wpAny_norm (n' := 9) (l' := #[true, true, false, false, false, false, false, false, false, true, false, false]) (a' := ⟨#[.agg (cellsOf S), .agg (cellsOf T), .pointer (some ⟨w.heap.size, 0, none⟩), .pointer (some ⟨w.heap.size + 1, 0, none⟩), .bool false, .pointer (some ⟨X1.heap.size, 0, none⟩), undef, undef, undef, .agg (cellsOf S), v, undef, undef, undef, undef, undef, undef, undef, undef, undef, undef, undef, undef, undef, undef, undef, undef, undef, undef, undef, undef, undef, undef, undef, undef, undef, undef, undef, undef], []⟩) (by kernel_rfl) (by kernel_rfl) (by kernel_rfl) ?_
      refine wpAny_ready (rs := [2]) (by kernel_rfl) (by simp) ?_
      refine AllReady.cons rfl (fun K hK => ?_) ?_
      rotate_left
      · exact AllReady.nil
      refine step_load rfl 25 _ rfl (w.heap.size + 1) rfl 25 _ (0, 0) _ B.out Tryd.underlying25 rfl (infoBits _) (hK _ _ ?_)
      clear hK K
      refine wpAny_norm (n' := 8) (l' := #[true, true, true, false, false, false, false, false, false, true, false, false]) (a' := ⟨#[.agg (cellsOf S), .agg (cellsOf T), .pointer (some ⟨w.heap.size, 0, none⟩), .pointer (some ⟨w.heap.size + 1, 0, none⟩), .bool false, .pointer (some ⟨X1.heap.size, 0, none⟩), undef, undef, undef, .agg (cellsOf S), v, .agg (cellsOf T), undef, undef, undef, undef, undef, undef, undef, undef, undef, undef, undef, undef, undef, undef, undef, undef, undef, undef, undef, undef, undef, undef, undef, undef, undef, undef, undef], []⟩) (by kernel_rfl) (by kernel_rfl) (by kernel_rfl) ?_
      refine wpAny_ready (rs := [3]) (by kernel_rfl) (by simp) ?_
      refine AllReady.cons rfl (fun K hK => ?_) ?_
      rotate_left
      · exact AllReady.nil
      go_simp
      go_wp2_with (go_at_call 9; refine (HRb.out _).mono ?_; rintro e X3 ⟨⟨k, u, rfl, hruns, hown⟩, hb⟩)
      replace A := hid (A.out.below hb A.out.lt)
      replace B := hid (B.out.below hb B.out.lt)
      replace D := hid (D.out.trans (hb.mono D.out.size))
      replace Z := hid (Z.out.below hb Z.out.lt)
      replace OL := hid (owns_below OL.out hb)
      have RK := hid hruns
      have OK := hid (owns_mono (B' := w.heap.size + 2) hown (by omega))
      replace hs : w.heap.size + 2 ≤ X3.heap.size := Nat.le_trans hs hb.size
      clear hruns hown hb
      refine wpAny_norm (n' := 7) (l' := #[true, true, true, true, false, false, false, false, false, true, false, false]) (a' := ⟨#[.agg (cellsOf S), .agg (cellsOf T), .pointer (some ⟨w.heap.size, 0, none⟩), .pointer (some ⟨w.heap.size + 1, 0, none⟩), .bool false, .pointer (some ⟨X1.heap.size, 0, none⟩), undef, undef, undef, .agg (cellsOf S), v, .agg (cellsOf T), u, undef, undef, undef, undef, undef, undef, undef, undef, undef, undef, undef, undef, undef, undef, undef, undef, undef, undef, undef, undef, undef, undef, undef, undef, undef, undef], []⟩) (by kernel_rfl) (by kernel_rfl) (by kernel_rfl) ?_
      refine wpAny_ready (rs := [4]) (by kernel_rfl) (by simp) ?_
      refine AllReady.cons rfl (fun K hK => ?_) ?_
      rotate_left
      · exact AllReady.nil
      obtain ⟨v3, X4, hr3, ho3, hb3, hg3⟩ := join_run (w.heap.size + 2) _ X3 v u l k OL.out OK.out hs (by have := RL.out.length (by unfold top; omega); have := RK.out.length (by unfold top; omega); unfold top at *; omega)
      refine step_append_run rfl _ _ 31 rfl _ _ _ _ rfl rfl hr3 (hK _ _ ?_)
      clear hK K
      replace A := hid (A.out.below hb3 (by omega))
      replace B := hid (B.out.below hb3 (by omega))
      replace D := hid (D.out.trans (hb3.mono (by omega)))
      replace Z := hid (box_grown Z.out hg3 ZN.out)
      have OJ := hid ho3
      replace hs : w.heap.size + 2 ≤ X4.heap.size := Nat.le_trans hs hb3.size
      clear hr3 ho3 hb3 hg3 OL OK
      refine wpAny_norm (n' := 6) (l' := #[true, true, true, true, true, false, false, false, false, true, false, false]) (a' := ⟨#[.agg (cellsOf S), .agg (cellsOf T), .pointer (some ⟨w.heap.size, 0, none⟩), .pointer (some ⟨w.heap.size + 1, 0, none⟩), .bool false, .pointer (some ⟨X1.heap.size, 0, none⟩), undef, undef, undef, .agg (cellsOf S), v, .agg (cellsOf T), u, v3, undef, undef, undef, undef, undef, undef, undef, undef, undef, undef, undef, undef, undef, undef, undef, undef, undef, undef, undef, undef, undef, undef, undef, undef, undef], []⟩) (by kernel_rfl) (by kernel_rfl) (by kernel_rfl) ?_
      refine wpAny_ready (rs := [5]) (by kernel_rfl) (by simp) ?_
      refine AllReady.cons rfl (fun K hK => ?_) ?_
      rotate_left
      · exact AllReady.nil
      go_simp
      go_wp2_with (go_at_call 8; refine (make_own OJ.out (by rw [List.length_append]; have := RL.out.length (by unfold top; omega); have := RK.out.length (by unfold top; omega); unfold top at *; omega) (fun p hp => by rcases List.mem_append.1 hp with h | h; exact RL.out.valid p h; exact RK.out.valid p h)).mono ?_; rintro e X5 ⟨rfl, hb⟩)
      clear OJ
      replace A := hid (A.out.below hb A.out.lt)
      replace B := hid (B.out.below hb B.out.lt)
      replace D := hid (D.out.trans (hb.mono D.out.size))
      replace Z := hid (Z.out.below hb Z.out.lt)
      replace hs : w.heap.size + 2 ≤ X5.heap.size := Nat.le_trans hs hb.size
      clear hb
      generalize hCS : cellsOf (Slot.ofList (l ++ k)) = CS
      refine wpAny_norm (n' := 5) (l' := #[true, true, true, true, true, true, false, false, false, true, false, false]) (a' := ⟨#[.agg (cellsOf S), .agg (cellsOf T), .pointer (some ⟨w.heap.size, 0, none⟩), .pointer (some ⟨w.heap.size + 1, 0, none⟩), .bool false, .pointer (some ⟨X1.heap.size, 0, none⟩), undef, undef, undef, .agg (cellsOf S), v, .agg (cellsOf T), u, v3, .tuple #[.agg CS, .int .i64 0], undef, undef, undef, undef, undef, undef, undef, undef, undef, undef, undef, undef, undef, undef, undef, undef, undef, undef, undef, undef, undef, undef, undef, undef], []⟩) (by kernel_rfl) (by kernel_rfl) (by kernel_rfl) ?_
      refine wpAny_take (i := 6) (v := .tuple #[.agg CS, .int .i64 0]) rfl (by kernel_rfl) (by kernel_rfl) (by kernel_rfl) (fun _ _ _ h => h) (Or.inl ⟨by rfl, fun _ => by go_simp⟩) ?_
      refine wpAny_norm (n' := 4) (l' := #[true, true, true, true, true, true, true, false, false, true, false, false]) (a' := ⟨#[.agg (cellsOf S), .agg (cellsOf T), .pointer (some ⟨w.heap.size, 0, none⟩), .pointer (some ⟨w.heap.size + 1, 0, none⟩), .bool false, .pointer (some ⟨X1.heap.size, 0, none⟩), undef, undef, .tuple #[.agg CS, .int .i64 0], .agg (cellsOf S), v, .agg (cellsOf T), u, v3, .tuple #[.agg CS, .int .i64 0], undef, undef, undef, undef, undef, undef, undef, undef, undef, undef, undef, undef, undef, undef, undef, undef, undef, undef, undef, undef, undef, undef, undef, undef], []⟩) (by kernel_rfl) (by kernel_rfl) (by kernel_rfl) ?_
      refine wpAny_take (i := 7) (v := .agg CS) rfl (by kernel_rfl) (by kernel_rfl) (by kernel_rfl) (fun _ _ _ h => h) (Or.inl ⟨by rfl, fun _ => by go_simp⟩) ?_
      refine wpAny_norm (n' := 3) (l' := #[true, true, true, true, true, true, true, true, false, true, false, false]) (a' := ⟨#[.agg (cellsOf S), .agg (cellsOf T), .pointer (some ⟨w.heap.size, 0, none⟩), .pointer (some ⟨w.heap.size + 1, 0, none⟩), .bool false, .pointer (some ⟨X1.heap.size, 0, none⟩), undef, undef, .tuple #[.agg CS, .int .i64 0], .agg (cellsOf S), v, .agg (cellsOf T), u, v3, .tuple #[.agg CS, .int .i64 0], .agg CS, undef, undef, undef, undef, undef, undef, undef, undef, undef, undef, undef, undef, undef, undef, undef, undef, undef, undef, undef, undef, undef, undef, undef], []⟩) (by kernel_rfl) (by kernel_rfl) (by kernel_rfl) ?_
      refine wpAny_take (i := 8) (v := .int .i64 0) rfl (by kernel_rfl) (by kernel_rfl) (by kernel_rfl) (fun _ _ _ h => h) (Or.inl ⟨by rfl, fun _ => by go_simp⟩) ?_
      refine wpAny_norm (n' := 2) (l' := #[true, true, true, true, true, true, true, true, true, true, false, false]) (a' := ⟨#[.agg (cellsOf S), .agg (cellsOf T), .pointer (some ⟨w.heap.size, 0, none⟩), .pointer (some ⟨w.heap.size + 1, 0, none⟩), .bool false, .pointer (some ⟨X1.heap.size, 0, none⟩), undef, undef, .tuple #[.agg CS, .int .i64 0], .agg (cellsOf S), v, .agg (cellsOf T), u, v3, .tuple #[.agg CS, .int .i64 0], .agg CS, .int .i64 0, undef, undef, undef, undef, undef, undef, undef, undef, undef, undef, undef, undef, undef, undef, undef, undef, undef, undef, undef, undef, undef, undef], []⟩) (by kernel_rfl) (by kernel_rfl) (by kernel_rfl) ?_
      refine wpAny_ready (rs := [10]) (by kernel_rfl) (by simp) ?_
      refine AllReady.cons rfl (fun K hK => ?_) ?_
      rotate_left
      · exact AllReady.nil
      refine step_store rfl 25 _ _ rfl X1.heap.size CS rfl rfl 25 _ Z.out (by rw [← hCS]; exact infoBits _) (by rw [← hCS]; exact sizes _ _) (by rw [← hCS]; exact oneCells _) (hK _ _ ?_)
      clear hK K
      have CB : Hid (Box (X5.setRow X1.heap.size CS) X1.heap.size (Slot.ofList (l ++ k))) := by rw [← hCS]; exact box_size Z.out
      replace A : Hid (Box (X5.setRow X1.heap.size CS) w.heap.size S) := (setRow_other _ _ _ _ (by omega)).trans A.out
      replace B : Hid (Box (X5.setRow X1.heap.size CS) (w.heap.size + 1) T) := (setRow_other _ _ _ _ (by omega)).trans B.out
      replace D : Hid (Below w.heap.size w (X5.setRow X1.heap.size CS)) := below_setRow D.out (by omega) _
      clear Z hs
      generalize X5.setRow X1.heap.size CS = X6 at A B D CB ⊢
      refine wpAny_norm (n' := 1) (l' := #[true, true, true, true, true, true, true, true, true, true, true, false]) (a' := ⟨#[.agg (cellsOf S), .agg (cellsOf T), .pointer (some ⟨w.heap.size, 0, none⟩), .pointer (some ⟨w.heap.size + 1, 0, none⟩), .bool false, .pointer (some ⟨X1.heap.size, 0, none⟩), undef, undef, .tuple #[.agg CS, .int .i64 0], .agg (cellsOf S), v, .agg (cellsOf T), u, v3, .tuple #[.agg CS, .int .i64 0], .agg CS, .int .i64 0, undef, undef, undef, undef, undef, undef, undef, undef, undef, undef, undef, undef, undef, undef, undef, undef, undef, undef, undef, undef, undef, undef], []⟩) (by kernel_rfl) (by kernel_rfl) (by kernel_rfl) ?_
      refine wpAny_take (i := 11) (v := .int .i64 0) rfl (by kernel_rfl) (by kernel_rfl) (by kernel_rfl) (fun _ _ _ h => h) (Or.inl ⟨by rfl, fun _ => by go_simp⟩) ?_
      refine wpAny_norm (n' := 0) (l' := #[true, true, true, true, true, true, true, true, true, true, true, true]) (a' := ⟨#[.agg (cellsOf S), .agg (cellsOf T), .pointer (some ⟨w.heap.size, 0, none⟩), .pointer (some ⟨w.heap.size + 1, 0, none⟩), .bool false, .pointer (some ⟨X1.heap.size, 0, none⟩), .int .i64 0, undef, .tuple #[.agg CS, .int .i64 0], .agg (cellsOf S), v, .agg (cellsOf T), u, v3, .tuple #[.agg CS, .int .i64 0], .agg CS, .int .i64 0, undef, undef, undef, undef, undef, undef, undef, undef, undef, undef, undef, undef, undef, undef, undef, undef, undef, undef, undef, undef, undef, undef], []⟩) (by kernel_rfl) (by kernel_rfl) (by kernel_rfl) ?_
      refine wpAny_done (by kernel_rfl) ?_ _
      exact rest.out X1.heap.size X6 (Slot.ofList (l ++ k)) _ _ _ _ _ _ _ _ _ A.out B.out CB.out (fun n hn => by rw [ofList_append, RL.out.ofList n (Nat.zero_le _) hn, RK.out.ofList n (Nat.zero_le _) hn]) hb5 D.out
    refine AllReady.cons rfl (fun K hK => ?_) ?_
    · refine step_load rfl 25 _ rfl (w.heap.size + 1) rfl 25 _ (0, 0) _ B.out Tryd.underlying25 rfl (infoBits _) (hK _ _ ?_)
      clear hK K
      refine wpAny_norm (n' := 10) (l' := #[true, false, true, false, false, false, false, false, false, false, false, false]) (a' := ⟨#[.agg (cellsOf S), .agg (cellsOf T), .pointer (some ⟨w.heap.size, 0, none⟩), .pointer (some ⟨w.heap.size + 1, 0, none⟩), .bool false, undef, undef, undef, undef, .agg (cellsOf S), undef, .agg (cellsOf T), undef, undef, undef, undef, undef, undef, undef, undef, undef, undef, undef, undef, undef, undef, undef, undef, undef, undef, undef, undef, undef, undef, undef, undef, undef, undef, undef], []⟩) (by kernel_rfl) (by kernel_rfl) (by kernel_rfl) ?_
      refine wpAny_ready (rs := [1, 9]) (by kernel_rfl) (by simp) ?_
      refine AllReady.cons rfl (fun K hK => ?_) ?_
      · go_simp
        go_wp2_with (go_at_call 9; refine (HRa.out _).mono ?_; rintro e X1 ⟨⟨l, v, rfl, hruns, hown⟩, hb⟩)
        replace A := hid (A.out.below hb A.out.lt)
        replace B := hid (B.out.below hb B.out.lt)
        replace D := hid (D.out.trans (hb.mono D.out.size))
        have RL := hid hruns
        have OL := hid (owns_mono (B' := w.heap.size + 2) hown (by omega))
        replace hs : w.heap.size + 2 ≤ X1.heap.size := Nat.le_trans hs hb.size
        clear hruns hown hb
        refine wpAny_norm (n' := 9) (l' := #[true, true, true, false, false, false, false, false, false, false, false, false]) (a' := ⟨#[.agg (cellsOf S), .agg (cellsOf T), .pointer (some ⟨w.heap.size, 0, none⟩), .pointer (some ⟨w.heap.size + 1, 0, none⟩), .bool false, undef, undef, undef, undef, .agg (cellsOf S), v, .agg (cellsOf T), undef, undef, undef, undef, undef, undef, undef, undef, undef, undef, undef, undef, undef, undef, undef, undef, undef, undef, undef, undef, undef, undef, undef, undef, undef, undef, undef], []⟩) (by kernel_rfl) (by kernel_rfl) (by kernel_rfl) ?_
        refine wpAny_ready (rs := [3, 9]) (by kernel_rfl) (by simp) ?_
        refine AllReady.cons rfl (fun K hK => ?_) ?_
        · go_simp
          go_wp2_with (go_at_call 9; refine (HRb.out _).mono ?_; rintro e X2 ⟨⟨k, u, rfl, hruns, hown⟩, hb⟩)
          replace A := hid (A.out.below hb A.out.lt)
          replace B := hid (B.out.below hb B.out.lt)
          replace D := hid (D.out.trans (hb.mono D.out.size))
          replace OL := hid (owns_below OL.out hb)
          have RK := hid hruns
          have OK := hid (owns_mono (B' := w.heap.size + 2) hown (by omega))
          replace hs : w.heap.size + 2 ≤ X2.heap.size := Nat.le_trans hs hb.size
          clear hruns hown hb
          refine wpAny_norm (n' := 8) (l' := #[true, true, true, true, false, false, false, false, false, false, false, false]) (a' := ⟨#[.agg (cellsOf S), .agg (cellsOf T), .pointer (some ⟨w.heap.size, 0, none⟩), .pointer (some ⟨w.heap.size + 1, 0, none⟩), .bool false, undef, undef, undef, undef, .agg (cellsOf S), v, .agg (cellsOf T), u, undef, undef, undef, undef, undef, undef, undef, undef, undef, undef, undef, undef, undef, undef, undef, undef, undef, undef, undef, undef, undef, undef, undef, undef, undef, undef], []⟩) (by kernel_rfl) (by kernel_rfl) (by kernel_rfl) ?_
          refine wpAny_ready (rs := [4, 9]) (by kernel_rfl) (by simp) ?_
          refine AllReady.cons rfl (fun K hK => ?_) ?_
          · obtain ⟨v3, X3, hr3, ho3, hb3, hg3⟩ := join_run (w.heap.size + 2) _ X2 v u l k OL.out OK.out hs (by have := RL.out.length (by unfold top; omega); have := RK.out.length (by unfold top; omega); unfold top at *; omega)
            refine step_append_run rfl _ _ 31 rfl _ _ _ _ rfl rfl hr3 (hK _ _ ?_)
            clear hK K
            replace A := hid (A.out.below hb3 (by omega))
            replace B := hid (B.out.below hb3 (by omega))
            replace D := hid (D.out.trans (hb3.mono (by omega)))
            have OJ := hid ho3
            replace hs : w.heap.size + 2 ≤ X3.heap.size := Nat.le_trans hs hb3.size
            clear hr3 ho3 hb3 hg3 OL OK
            refine wpAny_norm (n' := 7) (l' := #[true, true, true, true, true, false, false, false, false, false, false, false]) (a' := ⟨#[.agg (cellsOf S), .agg (cellsOf T), .pointer (some ⟨w.heap.size, 0, none⟩), .pointer (some ⟨w.heap.size + 1, 0, none⟩), .bool false, undef, undef, undef, undef, .agg (cellsOf S), v, .agg (cellsOf T), u, v3, undef, undef, undef, undef, undef, undef, undef, undef, undef, undef, undef, undef, undef, undef, undef, undef, undef, undef, undef, undef, undef, undef, undef, undef, undef], []⟩) (by kernel_rfl) (by kernel_rfl) (by kernel_rfl) ?_
            refine wpAny_ready (rs := [5, 9]) (by kernel_rfl) (by simp) ?_
            refine AllReady.cons rfl (fun K hK => ?_) ?_
            · go_simp
              go_wp2_with (go_at_call 8; refine (make_own OJ.out (by rw [List.length_append]; have := RL.out.length (by unfold top; omega); have := RK.out.length (by unfold top; omega); unfold top at *; omega) (fun p hp => by rcases List.mem_append.1 hp with h | h; exact RL.out.valid p h; exact RK.out.valid p h)).mono ?_; rintro e X4 ⟨rfl, hb⟩)
              clear OJ
              replace A := hid (A.out.below hb A.out.lt)
              replace B := hid (B.out.below hb B.out.lt)
              replace D := hid (D.out.trans (hb.mono D.out.size))
              replace hs : w.heap.size + 2 ≤ X4.heap.size := Nat.le_trans hs hb.size
              clear hb
              generalize hCS : cellsOf (Slot.ofList (l ++ k)) = CS
              refine wpAny_norm (n' := 6) (l' := #[true, true, true, true, true, true, false, false, false, false, false, false]) (a' := ⟨#[.agg (cellsOf S), .agg (cellsOf T), .pointer (some ⟨w.heap.size, 0, none⟩), .pointer (some ⟨w.heap.size + 1, 0, none⟩), .bool false, undef, undef, undef, undef, .agg (cellsOf S), v, .agg (cellsOf T), u, v3, .tuple #[.agg CS, .int .i64 0], undef, undef, undef, undef, undef, undef, undef, undef, undef, undef, undef, undef, undef, undef, undef, undef, undef, undef, undef, undef, undef, undef, undef, undef], []⟩) (by kernel_rfl) (by kernel_rfl) (by kernel_rfl) ?_
              refine wpAny_take (i := 6) (v := .tuple #[.agg CS, .int .i64 0]) rfl (by kernel_rfl) (by kernel_rfl) (by kernel_rfl) (fun _ _ _ h => h) (Or.inl ⟨by rfl, fun _ => by go_simp⟩) ?_
              refine wpAny_norm (n' := 5) (l' := #[true, true, true, true, true, true, true, false, false, false, false, false]) (a' := ⟨#[.agg (cellsOf S), .agg (cellsOf T), .pointer (some ⟨w.heap.size, 0, none⟩), .pointer (some ⟨w.heap.size + 1, 0, none⟩), .bool false, undef, undef, undef, .tuple #[.agg CS, .int .i64 0], .agg (cellsOf S), v, .agg (cellsOf T), u, v3, .tuple #[.agg CS, .int .i64 0], undef, undef, undef, undef, undef, undef, undef, undef, undef, undef, undef, undef, undef, undef, undef, undef, undef, undef, undef, undef, undef, undef, undef, undef], []⟩) (by kernel_rfl) (by kernel_rfl) (by kernel_rfl) ?_
              refine wpAny_take (i := 7) (v := .agg CS) rfl (by kernel_rfl) (by kernel_rfl) (by kernel_rfl) (fun _ _ _ h => h) (Or.inl ⟨by rfl, fun _ => by go_simp⟩) ?_
              refine wpAny_norm (n' := 4) (l' := #[true, true, true, true, true, true, true, true, false, false, false, false]) (a' := ⟨#[.agg (cellsOf S), .agg (cellsOf T), .pointer (some ⟨w.heap.size, 0, none⟩), .pointer (some ⟨w.heap.size + 1, 0, none⟩), .bool false, undef, undef, undef, .tuple #[.agg CS, .int .i64 0], .agg (cellsOf S), v, .agg (cellsOf T), u, v3, .tuple #[.agg CS, .int .i64 0], .agg CS, undef, undef, undef, undef, undef, undef, undef, undef, undef, undef, undef, undef, undef, undef, undef, undef, undef, undef, undef, undef, undef, undef, undef], []⟩) (by kernel_rfl) (by kernel_rfl) (by kernel_rfl) ?_
              refine wpAny_take (i := 8) (v := .int .i64 0) rfl (by kernel_rfl) (by kernel_rfl) (by kernel_rfl) (fun _ _ _ h => h) (Or.inl ⟨by rfl, fun _ => by go_simp⟩) ?_
              refine wpAny_norm (n' := 3) (l' := #[true, true, true, true, true, true, true, true, true, false, false, false]) (a' := ⟨#[.agg (cellsOf S), .agg (cellsOf T), .pointer (some ⟨w.heap.size, 0, none⟩), .pointer (some ⟨w.heap.size + 1, 0, none⟩), .bool false, undef, undef, undef, .tuple #[.agg CS, .int .i64 0], .agg (cellsOf S), v, .agg (cellsOf T), u, v3, .tuple #[.agg CS, .int .i64 0], .agg CS, .int .i64 0, undef, undef, undef, undef, undef, undef, undef, undef, undef, undef, undef, undef, undef, undef, undef, undef, undef, undef, undef, undef, undef, undef], []⟩) (by kernel_rfl) (by kernel_rfl) (by kernel_rfl) ?_
              refine wpAny_ready (rs := [9]) (by kernel_rfl) (by simp) ?_
              refine AllReady.cons rfl (fun K hK => ?_) ?_
              rotate_left
              · exact AllReady.nil
              go_simp
              refine hK _ _ ?_
              clear hK K
              have hb := below_alloc X4 (.cells (cellsOf fun _ => false) 25)
              replace A := hid (A.out.below hb A.out.lt)
              replace B := hid (B.out.below hb B.out.lt)
              replace D := hid (D.out.trans (hb.mono D.out.size))
              have Z := hid (box_new X4 (fun _ => false))
              have hb5 : w.heap.size + 2 ≤ X4.heap.size := hs
              replace hs : w.heap.size + 2 ≤ (X4.alloc (.cells (cellsOf fun _ => false) 25)).heap.size := Nat.le_trans hs hb.size
              clear hb
              generalize X4.alloc (.cells (cellsOf fun _ => false) 25) = X5 at A B D Z hs ⊢
              refine wpAny_norm (n' := 2) (l' := #[true, true, true, true, true, true, true, true, true, true, false, false]) (a' := ⟨#[.agg (cellsOf S), .agg (cellsOf T), .pointer (some ⟨w.heap.size, 0, none⟩), .pointer (some ⟨w.heap.size + 1, 0, none⟩), .bool false, .pointer (some ⟨X4.heap.size, 0, none⟩), undef, undef, .tuple #[.agg CS, .int .i64 0], .agg (cellsOf S), v, .agg (cellsOf T), u, v3, .tuple #[.agg CS, .int .i64 0], .agg CS, .int .i64 0, undef, undef, undef, undef, undef, undef, undef, undef, undef, undef, undef, undef, undef, undef, undef, undef, undef, undef, undef, undef, undef, undef], []⟩) (by kernel_rfl) (by kernel_rfl) (by kernel_rfl) ?_
              refine wpAny_ready (rs := [10]) (by kernel_rfl) (by simp) ?_
              refine AllReady.cons rfl (fun K hK => ?_) ?_
              rotate_left
              · exact AllReady.nil
              refine step_store rfl 25 _ _ rfl X4.heap.size CS rfl rfl 25 _ Z.out (by rw [← hCS]; exact infoBits _) (by rw [← hCS]; exact sizes _ _) (by rw [← hCS]; exact oneCells _) (hK _ _ ?_)
              clear hK K
              have CB : Hid (Box (X5.setRow X4.heap.size CS) X4.heap.size (Slot.ofList (l ++ k))) := by rw [← hCS]; exact box_size Z.out
              replace A : Hid (Box (X5.setRow X4.heap.size CS) w.heap.size S) := (setRow_other _ _ _ _ (by omega)).trans A.out
              replace B : Hid (Box (X5.setRow X4.heap.size CS) (w.heap.size + 1) T) := (setRow_other _ _ _ _ (by omega)).trans B.out
              replace D : Hid (Below w.heap.size w (X5.setRow X4.heap.size CS)) := below_setRow D.out (by omega) _
              clear Z hs
              generalize X5.setRow X4.heap.size CS = X6 at A B D CB ⊢
              refine wpAny_norm (n' := 1) (l' := #[true, true, true, true, true, true, true, true, true, true, true, false]) (a' := ⟨#[.agg (cellsOf S), .agg (cellsOf T), .pointer (some ⟨w.heap.size, 0, none⟩), .pointer (some ⟨w.heap.size + 1, 0, none⟩), .bool false, .pointer (some ⟨X4.heap.size, 0, none⟩), undef, undef, .tuple #[.agg CS, .int .i64 0], .agg (cellsOf S), v, .agg (cellsOf T), u, v3, .tuple #[.agg CS, .int .i64 0], .agg CS, .int .i64 0, undef, undef, undef, undef, undef, undef, undef, undef, undef, undef, undef, undef, undef, undef, undef, undef, undef, undef, undef, undef, undef, undef], []⟩) (by kernel_rfl) (by kernel_rfl) (by kernel_rfl) ?_
              refine wpAny_take (i := 11) (v := .int .i64 0) rfl (by kernel_rfl) (by kernel_rfl) (by kernel_rfl) (fun _ _ _ h => h) (Or.inl ⟨by rfl, fun _ => by go_simp⟩) ?_
              refine wpAny_norm (n' := 0) (l' := #[true, true, true, true, true, true, true, true, true, true, true, true]) (a' := ⟨#[.agg (cellsOf S), .agg (cellsOf T), .pointer (some ⟨w.heap.size, 0, none⟩), .pointer (some ⟨w.heap.size + 1, 0, none⟩), .bool false, .pointer (some ⟨X4.heap.size, 0, none⟩), .int .i64 0, undef, .tuple #[.agg CS, .int .i64 0], .agg (cellsOf S), v, .agg (cellsOf T), u, v3, .tuple #[.agg CS, .int .i64 0], .agg CS, .int .i64 0, undef, undef, undef, undef, undef, undef, undef, undef, undef, undef, undef, undef, undef, undef, undef, undef, undef, undef, undef, undef, undef, undef], []⟩) (by kernel_rfl) (by kernel_rfl) (by kernel_rfl) ?_
              refine wpAny_done (by kernel_rfl) ?_ _
              exact rest.out X4.heap.size X6 (Slot.ofList (l ++ k)) _ _ _ _ _ _ _ _ _ A.out B.out CB.out (fun n hn => by rw [ofList_append, RL.out.ofList n (Nat.zero_le _) hn, RK.out.ofList n (Nat.zero_le _) hn]) hb5 D.out
            refine AllReady.cons rfl (fun K hK => ?_) ?_
            rotate_left
            · exact AllReady.nil
            go_simp
            refine hK _ _ ?_
            clear hK K
            have hb := below_alloc X3 (.cells (cellsOf fun _ => false) 25)
            replace A := hid (A.out.below hb A.out.lt)
            replace B := hid (B.out.below hb B.out.lt)
            replace D := hid (D.out.trans (hb.mono D.out.size))
            replace OJ := hid (owns_below OJ.out hb)
            have Z := hid (box_new X3 (fun _ => false))
            have hb5 : w.heap.size + 2 ≤ X3.heap.size := hs
            replace hs : w.heap.size + 2 ≤ (X3.alloc (.cells (cellsOf fun _ => false) 25)).heap.size := Nat.le_trans hs hb.size
            clear hb
            generalize X3.alloc (.cells (cellsOf fun _ => false) 25) = X4 at A B D Z hs OJ ⊢
            refine wpAny_norm (n' := 6) (l' := #[true, true, true, true, true, false, false, false, false, true, false, false]) (a' := ⟨#[.agg (cellsOf S), .agg (cellsOf T), .pointer (some ⟨w.heap.size, 0, none⟩), .pointer (some ⟨w.heap.size + 1, 0, none⟩), .bool false, .pointer (some ⟨X3.heap.size, 0, none⟩), undef, undef, undef, .agg (cellsOf S), v, .agg (cellsOf T), u, v3, undef, undef, undef, undef, undef, undef, undef, undef, undef, undef, undef, undef, undef, undef, undef, undef, undef, undef, undef, undef, undef, undef, undef, undef, undef], []⟩) (by kernel_rfl) (by kernel_rfl) (by kernel_rfl) ?_
            refine wpAny_ready (rs := [5]) (by kernel_rfl) (by simp) ?_
            refine AllReady.cons rfl (fun K hK => ?_) ?_
            rotate_left
            · exact AllReady.nil
            go_simp
            go_wp2_with (go_at_call 8; refine (make_own OJ.out (by rw [List.length_append]; have := RL.out.length (by unfold top; omega); have := RK.out.length (by unfold top; omega); unfold top at *; omega) (fun p hp => by rcases List.mem_append.1 hp with h | h; exact RL.out.valid p h; exact RK.out.valid p h)).mono ?_; rintro e X5 ⟨rfl, hb⟩)
            clear OJ
            replace A := hid (A.out.below hb A.out.lt)
            replace B := hid (B.out.below hb B.out.lt)
            replace D := hid (D.out.trans (hb.mono D.out.size))
            replace Z := hid (Z.out.below hb Z.out.lt)
            replace hs : w.heap.size + 2 ≤ X5.heap.size := Nat.le_trans hs hb.size
            clear hb
            generalize hCS : cellsOf (Slot.ofList (l ++ k)) = CS
            refine wpAny_norm (n' := 5) (l' := #[true, true, true, true, true, true, false, false, false, true, false, false]) (a' := ⟨#[.agg (cellsOf S), .agg (cellsOf T), .pointer (some ⟨w.heap.size, 0, none⟩), .pointer (some ⟨w.heap.size + 1, 0, none⟩), .bool false, .pointer (some ⟨X3.heap.size, 0, none⟩), undef, undef, undef, .agg (cellsOf S), v, .agg (cellsOf T), u, v3, .tuple #[.agg CS, .int .i64 0], undef, undef, undef, undef, undef, undef, undef, undef, undef, undef, undef, undef, undef, undef, undef, undef, undef, undef, undef, undef, undef, undef, undef, undef], []⟩) (by kernel_rfl) (by kernel_rfl) (by kernel_rfl) ?_
            refine wpAny_take (i := 6) (v := .tuple #[.agg CS, .int .i64 0]) rfl (by kernel_rfl) (by kernel_rfl) (by kernel_rfl) (fun _ _ _ h => h) (Or.inl ⟨by rfl, fun _ => by go_simp⟩) ?_
            refine wpAny_norm (n' := 4) (l' := #[true, true, true, true, true, true, true, false, false, true, false, false]) (a' := ⟨#[.agg (cellsOf S), .agg (cellsOf T), .pointer (some ⟨w.heap.size, 0, none⟩), .pointer (some ⟨w.heap.size + 1, 0, none⟩), .bool false, .pointer (some ⟨X3.heap.size, 0, none⟩), undef, undef, .tuple #[.agg CS, .int .i64 0], .agg (cellsOf S), v, .agg (cellsOf T), u, v3, .tuple #[.agg CS, .int .i64 0], undef, undef, undef, undef, undef, undef, undef, undef, undef, undef, undef, undef, undef, undef, undef, undef, undef, undef, undef, undef, undef, undef, undef, undef], []⟩) (by kernel_rfl) (by kernel_rfl) (by kernel_rfl) ?_
            refine wpAny_take (i := 7) (v := .agg CS) rfl (by kernel_rfl) (by kernel_rfl) (by kernel_rfl) (fun _ _ _ h => h) (Or.inl ⟨by rfl, fun _ => by go_simp⟩) ?_
            refine wpAny_norm (n' := 3) (l' := #[true, true, true, true, true, true, true, true, false, true, false, false]) (a' := ⟨#[.agg (cellsOf S), .agg (cellsOf T), .pointer (some ⟨w.heap.size, 0, none⟩), .pointer (some ⟨w.heap.size + 1, 0, none⟩), .bool false, .pointer (some ⟨X3.heap.size, 0, none⟩), undef, undef, .tuple #[.agg CS, .int .i64 0], .agg (cellsOf S), v, .agg (cellsOf T), u, v3, .tuple #[.agg CS, .int .i64 0], .agg CS, undef, undef, undef, undef, undef, undef, undef, undef, undef, undef, undef, undef, undef, undef, undef, undef, undef, undef, undef, undef, undef, undef, undef], []⟩) (by kernel_rfl) (by kernel_rfl) (by kernel_rfl) ?_
            refine wpAny_take (i := 8) (v := .int .i64 0) rfl (by kernel_rfl) (by kernel_rfl) (by kernel_rfl) (fun _ _ _ h => h) (Or.inl ⟨by rfl, fun _ => by go_simp⟩) ?_
            refine wpAny_norm (n' := 2) (l' := #[true, true, true, true, true, true, true, true, true, true, false, false]) (a' := ⟨#[.agg (cellsOf S), .agg (cellsOf T), .pointer (some ⟨w.heap.size, 0, none⟩), .pointer (some ⟨w.heap.size + 1, 0, none⟩), .bool false, .pointer (some ⟨X3.heap.size, 0, none⟩), undef, undef, .tuple #[.agg CS, .int .i64 0], .agg (cellsOf S), v, .agg (cellsOf T), u, v3, .tuple #[.agg CS, .int .i64 0], .agg CS, .int .i64 0, undef, undef, undef, undef, undef, undef, undef, undef, undef, undef, undef, undef, undef, undef, undef, undef, undef, undef, undef, undef, undef, undef], []⟩) (by kernel_rfl) (by kernel_rfl) (by kernel_rfl) ?_
            refine wpAny_ready (rs := [10]) (by kernel_rfl) (by simp) ?_
            refine AllReady.cons rfl (fun K hK => ?_) ?_
            rotate_left
            · exact AllReady.nil
            refine step_store rfl 25 _ _ rfl X3.heap.size CS rfl rfl 25 _ Z.out (by rw [← hCS]; exact infoBits _) (by rw [← hCS]; exact sizes _ _) (by rw [← hCS]; exact oneCells _) (hK _ _ ?_)
            clear hK K
            have CB : Hid (Box (X5.setRow X3.heap.size CS) X3.heap.size (Slot.ofList (l ++ k))) := by rw [← hCS]; exact box_size Z.out
            replace A : Hid (Box (X5.setRow X3.heap.size CS) w.heap.size S) := (setRow_other _ _ _ _ (by omega)).trans A.out
            replace B : Hid (Box (X5.setRow X3.heap.size CS) (w.heap.size + 1) T) := (setRow_other _ _ _ _ (by omega)).trans B.out
            replace D : Hid (Below w.heap.size w (X5.setRow X3.heap.size CS)) := below_setRow D.out (by omega) _
            clear Z hs
            generalize X5.setRow X3.heap.size CS = X6 at A B D CB ⊢
            refine wpAny_norm (n' := 1) (l' := #[true, true, true, true, true, true, true, true, true, true, true, false]) (a' := ⟨#[.agg (cellsOf S), .agg (cellsOf T), .pointer (some ⟨w.heap.size, 0, none⟩), .pointer (some ⟨w.heap.size + 1, 0, none⟩), .bool false, .pointer (some ⟨X3.heap.size, 0, none⟩), undef, undef, .tuple #[.agg CS, .int .i64 0], .agg (cellsOf S), v, .agg (cellsOf T), u, v3, .tuple #[.agg CS, .int .i64 0], .agg CS, .int .i64 0, undef, undef, undef, undef, undef, undef, undef, undef, undef, undef, undef, undef, undef, undef, undef, undef, undef, undef, undef, undef, undef, undef], []⟩) (by kernel_rfl) (by kernel_rfl) (by kernel_rfl) ?_
            refine wpAny_take (i := 11) (v := .int .i64 0) rfl (by kernel_rfl) (by kernel_rfl) (by kernel_rfl) (fun _ _ _ h => h) (Or.inl ⟨by rfl, fun _ => by go_simp⟩) ?_
            refine wpAny_norm (n' := 0) (l' := #[true, true, true, true, true, true, true, true, true, true, true, true]) (a' := ⟨#[.agg (cellsOf S), .agg (cellsOf T), .pointer (some ⟨w.heap.size, 0, none⟩), .pointer (some ⟨w.heap.size + 1, 0, none⟩), .bool false, .pointer (some ⟨X3.heap.size, 0, none⟩), .int .i64 0, undef, .tuple #[.agg CS, .int .i64 0], .agg (cellsOf S), v, .agg (cellsOf T), u, v3, .tuple #[.agg CS, .int .i64 0], .agg CS, .int .i64 0, undef, undef, undef, undef, undef, undef, undef, undef, undef, undef, undef, undef, undef, undef, undef, undef, undef, undef, undef, undef, undef, undef], []⟩) (by kernel_rfl) (by kernel_rfl) (by kernel_rfl) ?_
            refine wpAny_done (by kernel_rfl) ?_ _
            exact rest.out X3.heap.size X6 (Slot.ofList (l ++ k)) _ _ _ _ _ _ _ _ _ A.out B.out CB.out (fun n hn => by rw [ofList_append, RL.out.ofList n (Nat.zero_le _) hn, RK.out.ofList n (Nat.zero_le _) hn]) hb5 D.out
          refine AllReady.cons rfl (fun K hK => ?_) ?_
          rotate_left
          · exact AllReady.nil
          go_simp
          refine hK _ _ ?_
          clear hK K
          have hb := below_alloc X2 (.cells (cellsOf fun _ => false) 25)
          have ZN : Hid (∀ q, v.ownBlock = some q → q ≠ X2.heap.size) := fun q hq => by have := (World.ownsRow.lt OL.out q hq).2; omega
          replace A := hid (A.out.below hb A.out.lt)
          replace B := hid (B.out.below hb B.out.lt)
          replace D := hid (D.out.trans (hb.mono D.out.size))
          replace OL := hid (owns_below OL.out hb)
          replace OK := hid (owns_below OK.out hb)
          have Z := hid (box_new X2 (fun _ => false))
          have hb5 : w.heap.size + 2 ≤ X2.heap.size := hs
          replace hs : w.heap.size + 2 ≤ (X2.alloc (.cells (cellsOf fun _ => false) 25)).heap.size := Nat.le_trans hs hb.size
          clear hb
          generalize X2.alloc (.cells (cellsOf fun _ => false) 25) = X3 at A B D Z hs OL OK ⊢
          refine wpAny_norm (n' := 7) (l' := #[true, true, true, true, false, false, false, false, false, true, false, false]) (a' := ⟨#[.agg (cellsOf S), .agg (cellsOf T), .pointer (some ⟨w.heap.size, 0, none⟩), .pointer (some ⟨w.heap.size + 1, 0, none⟩), .bool false, .pointer (some ⟨X2.heap.size, 0, none⟩), undef, undef, undef, .agg (cellsOf S), v, .agg (cellsOf T), u, undef, undef, undef, undef, undef, undef, undef, undef, undef, undef, undef, undef, undef, undef, undef, undef, undef, undef, undef, undef, undef, undef, undef, undef, undef, undef], []⟩) (by kernel_rfl) (by kernel_rfl) (by kernel_rfl) ?_
          refine wpAny_ready (rs := [4]) (by kernel_rfl) (by simp) ?_
          refine AllReady.cons rfl (fun K hK => ?_) ?_
          rotate_left
          · exact AllReady.nil
          obtain ⟨v3, X4, hr3, ho3, hb3, hg3⟩ := join_run (w.heap.size + 2) _ X3 v u l k OL.out OK.out hs (by have := RL.out.length (by unfold top; omega); have := RK.out.length (by unfold top; omega); unfold top at *; omega)
          refine step_append_run rfl _ _ 31 rfl _ _ _ _ rfl rfl hr3 (hK _ _ ?_)
          clear hK K
          replace A := hid (A.out.below hb3 (by omega))
          replace B := hid (B.out.below hb3 (by omega))
          replace D := hid (D.out.trans (hb3.mono (by omega)))
          replace Z := hid (box_grown Z.out hg3 ZN.out)
          have OJ := hid ho3
          replace hs : w.heap.size + 2 ≤ X4.heap.size := Nat.le_trans hs hb3.size
          clear hr3 ho3 hb3 hg3 OL OK
          refine wpAny_norm (n' := 6) (l' := #[true, true, true, true, true, false, false, false, false, true, false, false]) (a' := ⟨#[.agg (cellsOf S), .agg (cellsOf T), .pointer (some ⟨w.heap.size, 0, none⟩), .pointer (some ⟨w.heap.size + 1, 0, none⟩), .bool false, .pointer (some ⟨X2.heap.size, 0, none⟩), undef, undef, undef, .agg (cellsOf S), v, .agg (cellsOf T), u, v3, undef, undef, undef, undef, undef, undef, undef, undef, undef, undef, undef, undef, undef, undef, undef, undef, undef, undef, undef, undef, undef, undef, undef, undef, undef], []⟩) (by kernel_rfl) (by kernel_rfl) (by kernel_rfl) ?_
          refine wpAny_ready (rs := [5]) (by kernel_rfl) (by simp) ?_
          refine AllReady.cons rfl (fun K hK => ?_) ?_
          rotate_left
          · exact AllReady.nil
          go_simp
          go_wp2_with (go_at_call 8; refine (make_own OJ.out (by rw [List.length_append]; have := RL.out.length (by unfold top; omega); have := RK.out.length (by unfold top; omega); unfold top at *; omega) (fun p hp => by rcases List.mem_append.1 hp with h | h; exact RL.out.valid p h; exact RK.out.valid p h)).mono ?_; rintro e X5 ⟨rfl, hb⟩)
          clear OJ
          replace A := hid (A.out.below hb A.out.lt)
          replace B := hid (B.out.below hb B.out.lt)
          replace D := hid (D.out.trans (hb.mono D.out.size))
          replace Z := hid (Z.out.below hb Z.out.lt)
          replace hs : w.heap.size + 2 ≤ X5.heap.size := Nat.le_trans hs hb.size
          clear hb
          generalize hCS : cellsOf (Slot.ofList (l ++ k)) = CS
          refine wpAny_norm (n' := 5) (l' := #[true, true, true, true, true, true, false, false, false, true, false, false]) (a' := ⟨#[.agg (cellsOf S), .agg (cellsOf T), .pointer (some ⟨w.heap.size, 0, none⟩), .pointer (some ⟨w.heap.size + 1, 0, none⟩), .bool false, .pointer (some ⟨X2.heap.size, 0, none⟩), undef, undef, undef, .agg (cellsOf S), v, .agg (cellsOf T), u, v3, .tuple #[.agg CS, .int .i64 0], undef, undef, undef, undef, undef, undef, undef, undef, undef, undef, undef, undef, undef, undef, undef, undef, undef, undef, undef, undef, undef, undef, undef, undef], []⟩) (by kernel_rfl) (by kernel_rfl) (by kernel_rfl) ?_
          refine wpAny_take (i := 6) (v := .tuple #[.agg CS, .int .i64 0]) rfl (by kernel_rfl) (by kernel_rfl) (by kernel_rfl) (fun _ _ _ h => h) (Or.inl ⟨by rfl, fun _ => by go_simp⟩) ?_
          refine wpAny_norm (n' := 4) (l' := #[true, true, true, true, true, true, true, false, false, true, false, false]) (a' := ⟨#[.agg (cellsOf S), .agg (cellsOf T), .pointer (some ⟨w.heap.size, 0, none⟩), .pointer (some ⟨w.heap.size + 1, 0, none⟩), .bool false, .pointer (some ⟨X2.heap.size, 0, none⟩), undef, undef, .tuple #[.agg CS, .int .i64 0], .agg (cellsOf S), v, .agg (cellsOf T), u, v3, .tuple #[.agg CS, .int .i64 0], undef, undef, undef, undef, undef, undef, undef, undef, undef, undef, undef, undef, undef, undef, undef, undef, undef, undef, undef, undef, undef, undef, undef, undef], []⟩) (by kernel_rfl) (by kernel_rfl) (by kernel_rfl) ?_
          refine wpAny_take (i := 7) (v := .agg CS) rfl (by kernel_rfl) (by kernel_rfl) (by kernel_rfl) (fun _ _ _ h => h) (Or.inl ⟨by rfl, fun _ => by go_simp⟩) ?_
          refine wpAny_norm (n' := 3) (l' := #[true, true, true, true, true, true, true, true, false, true, false, false]) (a' := ⟨#[.agg (cellsOf S), .agg (cellsOf T), .pointer (some ⟨w.heap.size, 0, none⟩), .pointer (some ⟨w.heap.size + 1, 0, none⟩), .bool false, .pointer (some ⟨X2.heap.size, 0, none⟩), undef, undef, .tuple #[.agg CS, .int .i64 0], .agg (cellsOf S), v, .agg (cellsOf T), u, v3, .tuple #[.agg CS, .int .i64 0], .agg CS, undef, undef, undef, undef, undef, undef, undef, undef, undef, undef, undef, undef, undef, undef, undef, undef, undef, undef, undef, undef, undef, undef, undef], []⟩) (by kernel_rfl) (by kernel_rfl) (by kernel_rfl) ?_
          refine wpAny_take (i := 8) (v := .int .i64 0) rfl (by kernel_rfl) (by kernel_rfl) (by kernel_rfl) (fun _ _ _ h => h) (Or.inl ⟨by rfl, fun _ => by go_simp⟩) ?_
          refine wpAny_norm (n' := 2) (l' := #[true, true, true, true, true, true, true, true, true, true, false, false]) (a' := ⟨#[.agg (cellsOf S), .agg (cellsOf T), .pointer (some ⟨w.heap.size, 0, none⟩), .pointer (some ⟨w.heap.size + 1, 0, none⟩), .bool false, .pointer (some ⟨X2.heap.size, 0, none⟩), undef, undef, .tuple #[.agg CS, .int .i64 0], .agg (cellsOf S), v, .agg (cellsOf T), u, v3, .tuple #[.agg CS, .int .i64 0], .agg CS, .int .i64 0, undef, undef, undef, undef, undef, undef, undef, undef, undef, undef, undef, undef, undef, undef, undef, undef, undef, undef, undef, undef, undef, undef], []⟩) (by kernel_rfl) (by kernel_rfl) (by kernel_rfl) ?_
          refine wpAny_ready (rs := [10]) (by kernel_rfl) (by simp) ?_
          refine AllReady.cons rfl (fun K hK => ?_) ?_
          rotate_left
          · exact AllReady.nil
          refine step_store rfl 25 _ _ rfl X2.heap.size CS rfl rfl 25 _ Z.out (by rw [← hCS]; exact infoBits _) (by rw [← hCS]; exact sizes _ _) (by rw [← hCS]; exact oneCells _) (hK _ _ ?_)
          clear hK K
          have CB : Hid (Box (X5.setRow X2.heap.size CS) X2.heap.size (Slot.ofList (l ++ k))) := by rw [← hCS]; exact box_size Z.out
          replace A : Hid (Box (X5.setRow X2.heap.size CS) w.heap.size S) := (setRow_other _ _ _ _ (by omega)).trans A.out
          replace B : Hid (Box (X5.setRow X2.heap.size CS) (w.heap.size + 1) T) := (setRow_other _ _ _ _ (by omega)).trans B.out
          replace D : Hid (Below w.heap.size w (X5.setRow X2.heap.size CS)) := below_setRow D.out (by omega) _
          clear Z hs
          generalize X5.setRow X2.heap.size CS = X6 at A B D CB ⊢
          refine wpAny_norm (n' := 1) (l' := #[true, true, true, true, true, true, true, true, true, true, true, false]) (a' := ⟨#[.agg (cellsOf S), .agg (cellsOf T), .pointer (some ⟨w.heap.size, 0, none⟩), .pointer (some ⟨w.heap.size + 1, 0, none⟩), .bool false, .pointer (some ⟨X2.heap.size, 0, none⟩), undef, undef, .tuple #[.agg CS, .int .i64 0], .agg (cellsOf S), v, .agg (cellsOf T), u, v3, .tuple #[.agg CS, .int .i64 0], .agg CS, .int .i64 0, undef, undef, undef, undef, undef, undef, undef, undef, undef, undef, undef, undef, undef, undef, undef, undef, undef, undef, undef, undef, undef, undef], []⟩) (by kernel_rfl) (by kernel_rfl) (by kernel_rfl) ?_
          refine wpAny_take (i := 11) (v := .int .i64 0) rfl (by kernel_rfl) (by kernel_rfl) (by kernel_rfl) (fun _ _ _ h => h) (Or.inl ⟨by rfl, fun _ => by go_simp⟩) ?_
          refine wpAny_norm (n' := 0) (l' := #[true, true, true, true, true, true, true, true, true, true, true, true]) (a' := ⟨#[.agg (cellsOf S), .agg (cellsOf T), .pointer (some ⟨w.heap.size, 0, none⟩), .pointer (some ⟨w.heap.size + 1, 0, none⟩), .bool false, .pointer (some ⟨X2.heap.size, 0, none⟩), .int .i64 0, undef, .tuple #[.agg CS, .int .i64 0], .agg (cellsOf S), v, .agg (cellsOf T), u, v3, .tuple #[.agg CS, .int .i64 0], .agg CS, .int .i64 0, undef, undef, undef, undef, undef, undef, undef, undef, undef, undef, undef, undef, undef, undef, undef, undef, undef, undef, undef, undef, undef, undef], []⟩) (by kernel_rfl) (by kernel_rfl) (by kernel_rfl) ?_
          refine wpAny_done (by kernel_rfl) ?_ _
          exact rest.out X2.heap.size X6 (Slot.ofList (l ++ k)) _ _ _ _ _ _ _ _ _ A.out B.out CB.out (fun n hn => by rw [ofList_append, RL.out.ofList n (Nat.zero_le _) hn, RK.out.ofList n (Nat.zero_le _) hn]) hb5 D.out
        refine AllReady.cons rfl (fun K hK => ?_) ?_
        rotate_left
        · exact AllReady.nil
        go_simp
        refine hK _ _ ?_
        clear hK K
        have hb := below_alloc X1 (.cells (cellsOf fun _ => false) 25)
        have ZN : Hid (∀ q, v.ownBlock = some q → q ≠ X1.heap.size) := fun q hq => by have := (World.ownsRow.lt OL.out q hq).2; omega
        replace A := hid (A.out.below hb A.out.lt)
        replace B := hid (B.out.below hb B.out.lt)
        replace D := hid (D.out.trans (hb.mono D.out.size))
        replace OL := hid (owns_below OL.out hb)
        have Z := hid (box_new X1 (fun _ => false))
        have hb5 : w.heap.size + 2 ≤ X1.heap.size := hs
        replace hs : w.heap.size + 2 ≤ (X1.alloc (.cells (cellsOf fun _ => false) 25)).heap.size := Nat.le_trans hs hb.size
        clear hb
        generalize X1.alloc (.cells (cellsOf fun _ => false) 25) = X2 at A B D Z hs OL ⊢
        refine wpAny_norm (n' := 8) (l' := #[true, true, true, false, false, false, false, false, false, true, false, false]) (a' := ⟨#[.agg (cellsOf S), .agg (cellsOf T), .pointer (some ⟨w.heap.size, 0, none⟩), .pointer (some ⟨w.heap.size + 1, 0, none⟩), .bool false, .pointer (some ⟨X1.heap.size, 0, none⟩), undef, undef, undef, .agg (cellsOf S), v, .agg (cellsOf T), undef, undef, undef, undef, undef, undef, undef, undef, undef, undef, undef, undef, undef, undef, undef, undef, undef, undef, undef, undef, undef, undef, undef, undef, undef, undef, undef], []⟩) (by kernel_rfl) (by kernel_rfl) (by kernel_rfl) ?_
        refine wpAny_ready (rs := [3]) (by kernel_rfl) (by simp) ?_
        refine AllReady.cons rfl (fun K hK => ?_) ?_
        rotate_left
        · exact AllReady.nil
        go_simp
        go_wp2_with (go_at_call 9; refine (HRb.out _).mono ?_; rintro e X3 ⟨⟨k, u, rfl, hruns, hown⟩, hb⟩)
        replace A := hid (A.out.below hb A.out.lt)
        replace B := hid (B.out.below hb B.out.lt)
        replace D := hid (D.out.trans (hb.mono D.out.size))
        replace Z := hid (Z.out.below hb Z.out.lt)
        replace OL := hid (owns_below OL.out hb)
        have RK := hid hruns
        have OK := hid (owns_mono (B' := w.heap.size + 2) hown (by omega))
        replace hs : w.heap.size + 2 ≤ X3.heap.size := Nat.le_trans hs hb.size
        clear hruns hown hb
        refine wpAny_norm (n' := 7) (l' := #[true, true, true, true, false, false, false, false, false, true, false, false]) (a' := ⟨#[.agg (cellsOf S), .agg (cellsOf T), .pointer (some ⟨w.heap.size, 0, none⟩), .pointer (some ⟨w.heap.size + 1, 0, none⟩), .bool false, .pointer (some ⟨X1.heap.size, 0, none⟩), undef, undef, undef, .agg (cellsOf S), v, .agg (cellsOf T), u, undef, undef, undef, undef, undef, undef, undef, undef, undef, undef, undef, undef, undef, undef, undef, undef, undef, undef, undef, undef, undef, undef, undef, undef, undef, undef], []⟩) (by kernel_rfl) (by kernel_rfl) (by kernel_rfl) ?_
        refine wpAny_ready (rs := [4]) (by kernel_rfl) (by simp) ?_
        refine AllReady.cons rfl (fun K hK => ?_) ?_
        rotate_left
        · exact AllReady.nil
        obtain ⟨v3, X4, hr3, ho3, hb3, hg3⟩ := join_run (w.heap.size + 2) _ X3 v u l k OL.out OK.out hs (by have := RL.out.length (by unfold top; omega); have := RK.out.length (by unfold top; omega); unfold top at *; omega)
        refine step_append_run rfl _ _ 31 rfl _ _ _ _ rfl rfl hr3 (hK _ _ ?_)
        clear hK K
        replace A := hid (A.out.below hb3 (by omega))
        replace B := hid (B.out.below hb3 (by omega))
        replace D := hid (D.out.trans (hb3.mono (by omega)))
        replace Z := hid (box_grown Z.out hg3 ZN.out)
        have OJ := hid ho3
        replace hs : w.heap.size + 2 ≤ X4.heap.size := Nat.le_trans hs hb3.size
        clear hr3 ho3 hb3 hg3 OL OK
        refine wpAny_norm (n' := 6) (l' := #[true, true, true, true, true, false, false, false, false, true, false, false]) (a' := ⟨#[.agg (cellsOf S), .agg (cellsOf T), .pointer (some ⟨w.heap.size, 0, none⟩), .pointer (some ⟨w.heap.size + 1, 0, none⟩), .bool false, .pointer (some ⟨X1.heap.size, 0, none⟩), undef, undef, undef, .agg (cellsOf S), v, .agg (cellsOf T), u, v3, undef, undef, undef, undef, undef, undef, undef, undef, undef, undef, undef, undef, undef, undef, undef, undef, undef, undef, undef, undef, undef, undef, undef, undef, undef], []⟩) (by kernel_rfl) (by kernel_rfl) (by kernel_rfl) ?_
        refine wpAny_ready (rs := [5]) (by kernel_rfl) (by simp) ?_
        refine AllReady.cons rfl (fun K hK => ?_) ?_
        rotate_left
        · exact AllReady.nil
        go_simp
        go_wp2_with (go_at_call 8; refine (make_own OJ.out (by rw [List.length_append]; have := RL.out.length (by unfold top; omega); have := RK.out.length (by unfold top; omega); unfold top at *; omega) (fun p hp => by rcases List.mem_append.1 hp with h | h; exact RL.out.valid p h; exact RK.out.valid p h)).mono ?_; rintro e X5 ⟨rfl, hb⟩)
        clear OJ
        replace A := hid (A.out.below hb A.out.lt)
        replace B := hid (B.out.below hb B.out.lt)
        replace D := hid (D.out.trans (hb.mono D.out.size))
        replace Z := hid (Z.out.below hb Z.out.lt)
        replace hs : w.heap.size + 2 ≤ X5.heap.size := Nat.le_trans hs hb.size
        clear hb
        generalize hCS : cellsOf (Slot.ofList (l ++ k)) = CS
        refine wpAny_norm (n' := 5) (l' := #[true, true, true, true, true, true, false, false, false, true, false, false]) (a' := ⟨#[.agg (cellsOf S), .agg (cellsOf T), .pointer (some ⟨w.heap.size, 0, none⟩), .pointer (some ⟨w.heap.size + 1, 0, none⟩), .bool false, .pointer (some ⟨X1.heap.size, 0, none⟩), undef, undef, undef, .agg (cellsOf S), v, .agg (cellsOf T), u, v3, .tuple #[.agg CS, .int .i64 0], undef, undef, undef, undef, undef, undef, undef, undef, undef, undef, undef, undef, undef, undef, undef, undef, undef, undef, undef, undef, undef, undef, undef, undef], []⟩) (by kernel_rfl) (by kernel_rfl) (by kernel_rfl) ?_
        refine wpAny_take (i := 6) (v := .tuple #[.agg CS, .int .i64 0]) rfl (by kernel_rfl) (by kernel_rfl) (by kernel_rfl) (fun _ _ _ h => h) (Or.inl ⟨by rfl, fun _ => by go_simp⟩) ?_
        refine wpAny_norm (n' := 4) (l' := #[true, true, true, true, true, true, true, false, false, true, false, false]) (a' := ⟨#[.agg (cellsOf S), .agg (cellsOf T), .pointer (some ⟨w.heap.size, 0, none⟩), .pointer (some ⟨w.heap.size + 1, 0, none⟩), .bool false, .pointer (some ⟨X1.heap.size, 0, none⟩), undef, undef, .tuple #[.agg CS, .int .i64 0], .agg (cellsOf S), v, .agg (cellsOf T), u, v3, .tuple #[.agg CS, .int .i64 0], undef, undef, undef, undef, undef, undef, undef, undef, undef, undef, undef, undef, undef, undef, undef, undef, undef, undef, undef, undef, undef, undef, undef, undef], []⟩) (by kernel_rfl) (by kernel_rfl) (by kernel_rfl) ?_
        refine wpAny_take (i := 7) (v := .agg CS) rfl (by kernel_rfl) (by kernel_rfl) (by kernel_rfl) (fun _ _ _ h => h) (Or.inl ⟨by rfl, fun _ => by go_simp⟩) ?_
        refine wpAny_norm (n' := 3) (l' := #[true, true, true, true, true, true, true, true, false, true, false, false]) (a' := ⟨#[.agg (cellsOf S), .agg (cellsOf T), .pointer (some ⟨w.heap.size, 0, none⟩), .pointer (some ⟨w.heap.size + 1, 0, none⟩), .bool false, .pointer (some ⟨X1.heap.size, 0, none⟩), undef, undef, .tuple #[.agg CS, .int .i64 0], .agg (cellsOf S), v, .agg (cellsOf T), u, v3, .tuple #[.agg CS, .int .i64 0], .agg CS, undef, undef, undef, undef, undef, undef, undef, undef, undef, undef, undef, undef, undef, undef, undef, undef, undef, undef, undef, undef, undef, undef, undef], []⟩) (by kernel_rfl) (by kernel_rfl) (by kernel_rfl) ?_
        refine wpAny_take (i := 8) (v := .int .i64 0) rfl (by kernel_rfl) (by kernel_rfl) (by kernel_rfl) (fun _ _ _ h => h) (Or.inl ⟨by rfl, fun _ => by go_simp⟩) ?_
        refine wpAny_norm (n' := 2) (l' := #[true, true, true, true, true, true, true, true, true, true, false, false]) (a' := ⟨#[.agg (cellsOf S), .agg (cellsOf T), .pointer (some ⟨w.heap.size, 0, none⟩), .pointer (some ⟨w.heap.size + 1, 0, none⟩), .bool false, .pointer (some ⟨X1.heap.size, 0, none⟩), undef, undef, .tuple #[.agg CS, .int .i64 0], .agg (cellsOf S), v, .agg (cellsOf T), u, v3, .tuple #[.agg CS, .int .i64 0], .agg CS, .int .i64 0, undef, undef, undef, undef, undef, undef, undef, undef, undef, undef, undef, undef, undef, undef, undef, undef, undef, undef, undef, undef, undef, undef], []⟩) (by kernel_rfl) (by kernel_rfl) (by kernel_rfl) ?_
        refine wpAny_ready (rs := [10]) (by kernel_rfl) (by simp) ?_
        refine AllReady.cons rfl (fun K hK => ?_) ?_
        rotate_left
        · exact AllReady.nil
        refine step_store rfl 25 _ _ rfl X1.heap.size CS rfl rfl 25 _ Z.out (by rw [← hCS]; exact infoBits _) (by rw [← hCS]; exact sizes _ _) (by rw [← hCS]; exact oneCells _) (hK _ _ ?_)
        clear hK K
        have CB : Hid (Box (X5.setRow X1.heap.size CS) X1.heap.size (Slot.ofList (l ++ k))) := by rw [← hCS]; exact box_size Z.out
        replace A : Hid (Box (X5.setRow X1.heap.size CS) w.heap.size S) := (setRow_other _ _ _ _ (by omega)).trans A.out
        replace B : Hid (Box (X5.setRow X1.heap.size CS) (w.heap.size + 1) T) := (setRow_other _ _ _ _ (by omega)).trans B.out
        replace D : Hid (Below w.heap.size w (X5.setRow X1.heap.size CS)) := below_setRow D.out (by omega) _
        clear Z hs
        generalize X5.setRow X1.heap.size CS = X6 at A B D CB ⊢
        refine wpAny_norm (n' := 1) (l' := #[true, true, true, true, true, true, true, true, true, true, true, false]) (a' := ⟨#[.agg (cellsOf S), .agg (cellsOf T), .pointer (some ⟨w.heap.size, 0, none⟩), .pointer (some ⟨w.heap.size + 1, 0, none⟩), .bool false, .pointer (some ⟨X1.heap.size, 0, none⟩), undef, undef, .tuple #[.agg CS, .int .i64 0], .agg (cellsOf S), v, .agg (cellsOf T), u, v3, .tuple #[.agg CS, .int .i64 0], .agg CS, .int .i64 0, undef, undef, undef, undef, undef, undef, undef, undef, undef, undef, undef, undef, undef, undef, undef, undef, undef, undef, undef, undef, undef, undef], []⟩) (by kernel_rfl) (by kernel_rfl) (by kernel_rfl) ?_
        refine wpAny_take (i := 11) (v := .int .i64 0) rfl (by kernel_rfl) (by kernel_rfl) (by kernel_rfl) (fun _ _ _ h => h) (Or.inl ⟨by rfl, fun _ => by go_simp⟩) ?_
        refine wpAny_norm (n' := 0) (l' := #[true, true, true, true, true, true, true, true, true, true, true, true]) (a' := ⟨#[.agg (cellsOf S), .agg (cellsOf T), .pointer (some ⟨w.heap.size, 0, none⟩), .pointer (some ⟨w.heap.size + 1, 0, none⟩), .bool false, .pointer (some ⟨X1.heap.size, 0, none⟩), .int .i64 0, undef, .tuple #[.agg CS, .int .i64 0], .agg (cellsOf S), v, .agg (cellsOf T), u, v3, .tuple #[.agg CS, .int .i64 0], .agg CS, .int .i64 0, undef, undef, undef, undef, undef, undef, undef, undef, undef, undef, undef, undef, undef, undef, undef, undef, undef, undef, undef, undef, undef, undef], []⟩) (by kernel_rfl) (by kernel_rfl) (by kernel_rfl) ?_
        refine wpAny_done (by kernel_rfl) ?_ _
        exact rest.out X1.heap.size X6 (Slot.ofList (l ++ k)) _ _ _ _ _ _ _ _ _ A.out B.out CB.out (fun n hn => by rw [ofList_append, RL.out.ofList n (Nat.zero_le _) hn, RK.out.ofList n (Nat.zero_le _) hn]) hb5 D.out
      refine AllReady.cons rfl (fun K hK => ?_) ?_
      rotate_left
      · exact AllReady.nil
      go_simp
      refine hK _ _ ?_
      clear hK K
      have hb := below_alloc X0 (.cells (cellsOf fun _ => false) 25)
      replace A := hid (A.out.below hb A.out.lt)
      replace B := hid (B.out.below hb B.out.lt)
      replace D := hid (D.out.trans (hb.mono D.out.size))
      have Z := hid (box_new X0 (fun _ => false))
      have hb5 : w.heap.size + 2 ≤ X0.heap.size := hs
      replace hs : w.heap.size + 2 ≤ (X0.alloc (.cells (cellsOf fun _ => false) 25)).heap.size := Nat.le_trans hs hb.size
      clear hb
      generalize X0.alloc (.cells (cellsOf fun _ => false) 25) = X1 at A B D Z hs ⊢
      refine wpAny_norm (n' := 9) (l' := #[true, false, true, false, false, false, false, false, false, true, false, false]) (a' := ⟨#[.agg (cellsOf S), .agg (cellsOf T), .pointer (some ⟨w.heap.size, 0, none⟩), .pointer (some ⟨w.heap.size + 1, 0, none⟩), .bool false, .pointer (some ⟨X0.heap.size, 0, none⟩), undef, undef, undef, .agg (cellsOf S), undef, .agg (cellsOf T), undef, undef, undef, undef, undef, undef, undef, undef, undef, undef, undef, undef, undef, undef, undef, undef, undef, undef, undef, undef, undef, undef, undef, undef, undef, undef, undef], []⟩) (by kernel_rfl) (by kernel_rfl) (by kernel_rfl) ?_
      refine wpAny_ready (rs := [1]) (by kernel_rfl) (by simp) ?_
      refine AllReady.cons rfl (fun K hK => ?_) ?_
      rotate_left
      · exact AllReady.nil
      go_simp
      go_wp2_with (go_at_call 9; refine (HRa.out _).mono ?_; rintro e X2 ⟨⟨l, v, rfl, hruns, hown⟩, hb⟩)
      have ZN : Hid (∀ q, v.ownBlock = some q → q ≠ X0.heap.size) := fun q hq => by have := (World.ownsRow.lt hown q hq).1; have := Z.out.lt; omega
      replace A := hid (A.out.below hb A.out.lt)
      replace B := hid (B.out.below hb B.out.lt)
      replace D := hid (D.out.trans (hb.mono D.out.size))
      replace Z := hid (Z.out.below hb Z.out.lt)
      have RL := hid hruns
      have OL := hid (owns_mono (B' := w.heap.size + 2) hown (by omega))
      replace hs : w.heap.size + 2 ≤ X2.heap.size := Nat.le_trans hs hb.size
      clear hruns hown hb
      refine wpAny_norm (n' := 8) (l' := #[true, true, true, false, false, false, false, false, false, true, false, false]) (a' := ⟨#[.agg (cellsOf S), .agg (cellsOf T), .pointer (some ⟨w.heap.size, 0, none⟩), .pointer (some ⟨w.heap.size + 1, 0, none⟩), .bool false, .pointer (some ⟨X0.heap.size, 0, none⟩), undef, undef, undef, .agg (cellsOf S), v, .agg (cellsOf T), undef, undef, undef, undef, undef, undef, undef, undef, undef, undef, undef, undef, undef, undef, undef, undef, undef, undef, undef, undef, undef, undef, undef, undef, undef, undef, undef], []⟩) (by kernel_rfl) (by kernel_rfl) (by kernel_rfl) ?_
      refine wpAny_ready (rs := [3]) (by kernel_rfl) (by simp) ?_
      refine AllReady.cons rfl (fun K hK => ?_) ?_
      rotate_left
      · exact AllReady.nil
      go_simp
      go_wp2_with (go_at_call 9; refine (HRb.out _).mono ?_; rintro e X3 ⟨⟨k, u, rfl, hruns, hown⟩, hb⟩)
      replace A := hid (A.out.below hb A.out.lt)
      replace B := hid (B.out.below hb B.out.lt)
      replace D := hid (D.out.trans (hb.mono D.out.size))
      replace Z := hid (Z.out.below hb Z.out.lt)
      replace OL := hid (owns_below OL.out hb)
      have RK := hid hruns
      have OK := hid (owns_mono (B' := w.heap.size + 2) hown (by omega))
      replace hs : w.heap.size + 2 ≤ X3.heap.size := Nat.le_trans hs hb.size
      clear hruns hown hb
      refine wpAny_norm (n' := 7) (l' := #[true, true, true, true, false, false, false, false, false, true, false, false]) (a' := ⟨#[.agg (cellsOf S), .agg (cellsOf T), .pointer (some ⟨w.heap.size, 0, none⟩), .pointer (some ⟨w.heap.size + 1, 0, none⟩), .bool false, .pointer (some ⟨X0.heap.size, 0, none⟩), undef, undef, undef, .agg (cellsOf S), v, .agg (cellsOf T), u, undef, undef, undef, undef, undef, undef, undef, undef, undef, undef, undef, undef, undef, undef, undef, undef, undef, undef, undef, undef, undef, undef, undef, undef, undef, undef], []⟩) (by kernel_rfl) (by kernel_rfl) (by kernel_rfl) ?_
      refine wpAny_ready (rs := [4]) (by kernel_rfl) (by simp) ?_
      refine AllReady.cons rfl (fun K hK => ?_) ?_
      rotate_left
      · exact AllReady.nil
      obtain ⟨v3, X4, hr3, ho3, hb3, hg3⟩ := join_run (w.heap.size + 2) _ X3 v u l k OL.out OK.out hs (by have := RL.out.length (by unfold top; omega); have := RK.out.length (by unfold top; omega); unfold top at *; omega)
      refine step_append_run rfl _ _ 31 rfl _ _ _ _ rfl rfl hr3 (hK _ _ ?_)
      clear hK K
      replace A := hid (A.out.below hb3 (by omega))
      replace B := hid (B.out.below hb3 (by omega))
      replace D := hid (D.out.trans (hb3.mono (by omega)))
      replace Z := hid (box_grown Z.out hg3 ZN.out)
      have OJ := hid ho3
      replace hs : w.heap.size + 2 ≤ X4.heap.size := Nat.le_trans hs hb3.size
      clear hr3 ho3 hb3 hg3 OL OK
      refine wpAny_norm (n' := 6) (l' := #[true, true, true, true, true, false, false, false, false, true, false, false]) (a' := ⟨#[.agg (cellsOf S), .agg (cellsOf T), .pointer (some ⟨w.heap.size, 0, none⟩), .pointer (some ⟨w.heap.size + 1, 0, none⟩), .bool false, .pointer (some ⟨X0.heap.size, 0, none⟩), undef, undef, undef, .agg (cellsOf S), v, .agg (cellsOf T), u, v3, undef, undef, undef, undef, undef, undef, undef, undef, undef, undef, undef, undef, undef, undef, undef, undef, undef, undef, undef, undef, undef, undef, undef, undef, undef], []⟩) (by kernel_rfl) (by kernel_rfl) (by kernel_rfl) ?_
      refine wpAny_ready (rs := [5]) (by kernel_rfl) (by simp) ?_
      refine AllReady.cons rfl (fun K hK => ?_) ?_
      rotate_left
      · exact AllReady.nil
      go_simp
      go_wp2_with (go_at_call 8; refine (make_own OJ.out (by rw [List.length_append]; have := RL.out.length (by unfold top; omega); have := RK.out.length (by unfold top; omega); unfold top at *; omega) (fun p hp => by rcases List.mem_append.1 hp with h | h; exact RL.out.valid p h; exact RK.out.valid p h)).mono ?_; rintro e X5 ⟨rfl, hb⟩)
      clear OJ
      replace A := hid (A.out.below hb A.out.lt)
      replace B := hid (B.out.below hb B.out.lt)
      replace D := hid (D.out.trans (hb.mono D.out.size))
      replace Z := hid (Z.out.below hb Z.out.lt)
      replace hs : w.heap.size + 2 ≤ X5.heap.size := Nat.le_trans hs hb.size
      clear hb
      generalize hCS : cellsOf (Slot.ofList (l ++ k)) = CS
      refine wpAny_norm (n' := 5) (l' := #[true, true, true, true, true, true, false, false, false, true, false, false]) (a' := ⟨#[.agg (cellsOf S), .agg (cellsOf T), .pointer (some ⟨w.heap.size, 0, none⟩), .pointer (some ⟨w.heap.size + 1, 0, none⟩), .bool false, .pointer (some ⟨X0.heap.size, 0, none⟩), undef, undef, undef, .agg (cellsOf S), v, .agg (cellsOf T), u, v3, .tuple #[.agg CS, .int .i64 0], undef, undef, undef, undef, undef, undef, undef, undef, undef, undef, undef, undef, undef, undef, undef, undef, undef, undef, undef, undef, undef, undef, undef, undef], []⟩) (by kernel_rfl) (by kernel_rfl) (by kernel_rfl) ?_
      refine wpAny_take (i := 6) (v := .tuple #[.agg CS, .int .i64 0]) rfl (by kernel_rfl) (by kernel_rfl) (by kernel_rfl) (fun _ _ _ h => h) (Or.inl ⟨by rfl, fun _ => by go_simp⟩) ?_
      refine wpAny_norm (n' := 4) (l' := #[true, true, true, true, true, true, true, false, false, true, false, false]) (a' := ⟨#[.agg (cellsOf S), .agg (cellsOf T), .pointer (some ⟨w.heap.size, 0, none⟩), .pointer (some ⟨w.heap.size + 1, 0, none⟩), .bool false, .pointer (some ⟨X0.heap.size, 0, none⟩), undef, undef, .tuple #[.agg CS, .int .i64 0], .agg (cellsOf S), v, .agg (cellsOf T), u, v3, .tuple #[.agg CS, .int .i64 0], undef, undef, undef, undef, undef, undef, undef, undef, undef, undef, undef, undef, undef, undef, undef, undef, undef, undef, undef, undef, undef, undef, undef, undef], []⟩) (by kernel_rfl) (by kernel_rfl) (by kernel_rfl) ?_
      refine wpAny_take (i := 7) (v := .agg CS) rfl (by kernel_rfl) (by kernel_rfl) (by kernel_rfl) (fun _ _ _ h => h) (Or.inl ⟨by rfl, fun _ => by go_simp⟩) ?_
      refine wpAny_norm (n' := 3) (l' := #[true, true, true, true, true, true, true, true, false, true, false, false]) (a' := ⟨#[.agg (cellsOf S), .agg (cellsOf T), .pointer (some ⟨w.heap.size, 0, none⟩), .pointer (some ⟨w.heap.size + 1, 0, none⟩), .bool false, .pointer (some ⟨X0.heap.size, 0, none⟩), undef, undef, .tuple #[.agg CS, .int .i64 0], .agg (cellsOf S), v, .agg (cellsOf T), u, v3, .tuple #[.agg CS, .int .i64 0], .agg CS, undef, undef, undef, undef, undef, undef, undef, undef, undef, undef, undef, undef, undef, undef, undef, undef, undef, undef, undef, undef, undef, undef, undef], []⟩) (by kernel_rfl) (by kernel_rfl) (by kernel_rfl) ?_
      refine wpAny_take (i := 8) (v := .int .i64 0) rfl (by kernel_rfl) (by kernel_rfl) (by kernel_rfl) (fun _ _ _ h => h) (Or.inl ⟨by rfl, fun _ => by go_simp⟩) ?_
      refine wpAny_norm (n' := 2) (l' := #[true, true, true, true, true, true, true, true, true, true, false, false]) (a' := ⟨#[.agg (cellsOf S), .agg (cellsOf T), .pointer (some ⟨w.heap.size, 0, none⟩), .pointer (some ⟨w.heap.size + 1, 0, none⟩), .bool false, .pointer (some ⟨X0.heap.size, 0, none⟩), undef, undef, .tuple #[.agg CS, .int .i64 0], .agg (cellsOf S), v, .agg (cellsOf T), u, v3, .tuple #[.agg CS, .int .i64 0], .agg CS, .int .i64 0, undef, undef, undef, undef, undef, undef, undef, undef, undef, undef, undef, undef, undef, undef, undef, undef, undef, undef, undef, undef, undef, undef], []⟩) (by kernel_rfl) (by kernel_rfl) (by kernel_rfl) ?_
      refine wpAny_ready (rs := [10]) (by kernel_rfl) (by simp) ?_
      refine AllReady.cons rfl (fun K hK => ?_) ?_
      rotate_left
      · exact AllReady.nil
      refine step_store rfl 25 _ _ rfl X0.heap.size CS rfl rfl 25 _ Z.out (by rw [← hCS]; exact infoBits _) (by rw [← hCS]; exact sizes _ _) (by rw [← hCS]; exact oneCells _) (hK _ _ ?_)
      clear hK K
      have CB : Hid (Box (X5.setRow X0.heap.size CS) X0.heap.size (Slot.ofList (l ++ k))) := by rw [← hCS]; exact box_size Z.out
      replace A : Hid (Box (X5.setRow X0.heap.size CS) w.heap.size S) := (setRow_other _ _ _ _ (by omega)).trans A.out
      replace B : Hid (Box (X5.setRow X0.heap.size CS) (w.heap.size + 1) T) := (setRow_other _ _ _ _ (by omega)).trans B.out
      replace D : Hid (Below w.heap.size w (X5.setRow X0.heap.size CS)) := below_setRow D.out (by omega) _
      clear Z hs
      generalize X5.setRow X0.heap.size CS = X6 at A B D CB ⊢
      refine wpAny_norm (n' := 1) (l' := #[true, true, true, true, true, true, true, true, true, true, true, false]) (a' := ⟨#[.agg (cellsOf S), .agg (cellsOf T), .pointer (some ⟨w.heap.size, 0, none⟩), .pointer (some ⟨w.heap.size + 1, 0, none⟩), .bool false, .pointer (some ⟨X0.heap.size, 0, none⟩), undef, undef, .tuple #[.agg CS, .int .i64 0], .agg (cellsOf S), v, .agg (cellsOf T), u, v3, .tuple #[.agg CS, .int .i64 0], .agg CS, .int .i64 0, undef, undef, undef, undef, undef, undef, undef, undef, undef, undef, undef, undef, undef, undef, undef, undef, undef, undef, undef, undef, undef, undef], []⟩) (by kernel_rfl) (by kernel_rfl) (by kernel_rfl) ?_
      refine wpAny_take (i := 11) (v := .int .i64 0) rfl (by kernel_rfl) (by kernel_rfl) (by kernel_rfl) (fun _ _ _ h => h) (Or.inl ⟨by rfl, fun _ => by go_simp⟩) ?_
      refine wpAny_norm (n' := 0) (l' := #[true, true, true, true, true, true, true, true, true, true, true, true]) (a' := ⟨#[.agg (cellsOf S), .agg (cellsOf T), .pointer (some ⟨w.heap.size, 0, none⟩), .pointer (some ⟨w.heap.size + 1, 0, none⟩), .bool false, .pointer (some ⟨X0.heap.size, 0, none⟩), .int .i64 0, undef, .tuple #[.agg CS, .int .i64 0], .agg (cellsOf S), v, .agg (cellsOf T), u, v3, .tuple #[.agg CS, .int .i64 0], .agg CS, .int .i64 0, undef, undef, undef, undef, undef, undef, undef, undef, undef, undef, undef, undef, undef, undef, undef, undef, undef, undef, undef, undef, undef, undef], []⟩) (by kernel_rfl) (by kernel_rfl) (by kernel_rfl) ?_
      refine wpAny_done (by kernel_rfl) ?_ _
      exact rest.out X0.heap.size X6 (Slot.ofList (l ++ k)) _ _ _ _ _ _ _ _ _ A.out B.out CB.out (fun n hn => by rw [ofList_append, RL.out.ofList n (Nat.zero_le _) hn, RK.out.ofList n (Nat.zero_le _) hn]) hb5 D.out
    refine AllReady.cons rfl (fun K hK => ?_) ?_
    rotate_left
    · exact AllReady.nil
    go_simp
    refine hK _ _ ?_
    clear hK K
    have hb := below_alloc X0 (.cells (cellsOf fun _ => false) 25)
    replace A := hid (A.out.below hb A.out.lt)
    replace B := hid (B.out.below hb B.out.lt)
    replace D := hid (D.out.trans (hb.mono D.out.size))
    have Z := hid (box_new X0 (fun _ => false))
    have hb5 : w.heap.size + 2 ≤ X0.heap.size := hs
    replace hs : w.heap.size + 2 ≤ (X0.alloc (.cells (cellsOf fun _ => false) 25)).heap.size := Nat.le_trans hs hb.size
    clear hb
    generalize X0.alloc (.cells (cellsOf fun _ => false) 25) = X1 at A B D Z hs ⊢
    refine wpAny_norm (n' := 10) (l' := #[true, false, false, false, false, false, false, false, false, true, false, false]) (a' := ⟨#[.agg (cellsOf S), .agg (cellsOf T), .pointer (some ⟨w.heap.size, 0, none⟩), .pointer (some ⟨w.heap.size + 1, 0, none⟩), .bool false, .pointer (some ⟨X0.heap.size, 0, none⟩), undef, undef, undef, .agg (cellsOf S), undef, undef, undef, undef, undef, undef, undef, undef, undef, undef, undef, undef, undef, undef, undef, undef, undef, undef, undef, undef, undef, undef, undef, undef, undef, undef, undef, undef, undef], []⟩) (by kernel_rfl) (by kernel_rfl) (by kernel_rfl) ?_
    refine wpAny_ready (rs := [1, 2]) (by kernel_rfl) (by simp) ?_
    refine AllReady.cons rfl (fun K hK => ?_) ?_
    · go_simp
      go_wp2_with (go_at_call 9; refine (HRa.out _).mono ?_; rintro e X2 ⟨⟨l, v, rfl, hruns, hown⟩, hb⟩)
      have ZN : Hid (∀ q, v.ownBlock = some q → q ≠ X0.heap.size) := fun q hq => by have := (World.ownsRow.lt hown q hq).1; have := Z.out.lt; omega
      replace A := hid (A.out.below hb A.out.lt)
      replace B := hid (B.out.below hb B.out.lt)
      replace D := hid (D.out.trans (hb.mono D.out.size))
      replace Z := hid (Z.out.below hb Z.out.lt)
      have RL := hid hruns
      have OL := hid (owns_mono (B' := w.heap.size + 2) hown (by omega))
      replace hs : w.heap.size + 2 ≤ X2.heap.size := Nat.le_trans hs hb.size
      clear hruns hown hb
      refine wpAny_norm (n' := 9) (l' := #[true, true, false, false, false, false, false, false, false, true, false, false]) (a' := ⟨#[.agg (cellsOf S), .agg (cellsOf T), .pointer (some ⟨w.heap.size, 0, none⟩), .pointer (some ⟨w.heap.size + 1, 0, none⟩), .bool false, .pointer (some ⟨X0.heap.size, 0, none⟩), undef, undef, undef, .agg (cellsOf S), v, undef, undef, undef, undef, undef, undef, undef, undef, undef, undef, undef, undef, undef, undef, undef, undef, undef, undef, undef, undef, undef, undef, undef, undef, undef, undef, undef, undef], []⟩) (by kernel_rfl) (by kernel_rfl) (by kernel_rfl) ?_
      refine wpAny_ready (rs := [2]) (by kernel_rfl) (by simp) ?_
      refine AllReady.cons rfl (fun K hK => ?_) ?_
      rotate_left
      · exact AllReady.nil
      refine step_load rfl 25 _ rfl (w.heap.size + 1) rfl 25 _ (0, 0) _ B.out Tryd.underlying25 rfl (infoBits _) (hK _ _ ?_)
      clear hK K
      refine wpAny_norm (n' := 8) (l' := #[true, true, true, false, false, false, false, false, false, true, false, false]) (a' := ⟨#[.agg (cellsOf S), .agg (cellsOf T), .pointer (some ⟨w.heap.size, 0, none⟩), .pointer (some ⟨w.heap.size + 1, 0, none⟩), .bool false, .pointer (some ⟨X0.heap.size, 0, none⟩), undef, undef, undef, .agg (cellsOf S), v, .agg (cellsOf T), undef, undef, undef, undef, undef, undef, undef, undef, undef, undef, undef, undef, undef, undef, undef, undef, undef, undef, undef, undef, undef, undef, undef, undef, undef, undef, undef], []⟩) (by kernel_rfl) (by kernel_rfl) (by kernel_rfl) ?_
      refine wpAny_ready (rs := [3]) (by kernel_rfl) (by simp) ?_
      refine AllReady.cons rfl (fun K hK => ?_) ?_
      rotate_left
      · exact AllReady.nil
      go_simp
      go_wp2_with (go_at_call 9; refine (HRb.out _).mono ?_; rintro e X3 ⟨⟨k, u, rfl, hruns, hown⟩, hb⟩)
      replace A := hid (A.out.below hb A.out.lt)
      replace B := hid (B.out.below hb B.out.lt)
      replace D := hid (D.out.trans (hb.mono D.out.size))
      replace Z := hid (Z.out.below hb Z.out.lt)
      replace OL := hid (owns_below OL.out hb)
      have RK := hid hruns
      have OK := hid (owns_mono (B' := w.heap.size + 2) hown (by omega))
      replace hs : w.heap.size + 2 ≤ X3.heap.size := Nat.le_trans hs hb.size
      clear hruns hown hb
      refine wpAny_norm (n' := 7) (l' := #[true, true, true, true, false, false, false, false, false, true, false, false]) (a' := ⟨#[.agg (cellsOf S), .agg (cellsOf T), .pointer (some ⟨w.heap.size, 0, none⟩), .pointer (some ⟨w.heap.size + 1, 0, none⟩), .bool false, .pointer (some ⟨X0.heap.size, 0, none⟩), undef, undef, undef, .agg (cellsOf S), v, .agg (cellsOf T), u, undef, undef, undef, undef, undef, undef, undef, undef, undef, undef, undef, undef, undef, undef, undef, undef, undef, undef, undef, undef, undef, undef, undef, undef, undef, undef], []⟩) (by kernel_rfl) (by kernel_rfl) (by kernel_rfl) ?_
      refine wpAny_ready (rs := [4]) (by kernel_rfl) (by simp) ?_
      refine AllReady.cons rfl (fun K hK => ?_) ?_
      rotate_left
      · exact AllReady.nil
      obtain ⟨v3, X4, hr3, ho3, hb3, hg3⟩ := join_run (w.heap.size + 2) _ X3 v u l k OL.out OK.out hs (by have := RL.out.length (by unfold top; omega); have := RK.out.length (by unfold top; omega); unfold top at *; omega)
      refine step_append_run rfl _ _ 31 rfl _ _ _ _ rfl rfl hr3 (hK _ _ ?_)
      clear hK K
      replace A := hid (A.out.below hb3 (by omega))
      replace B := hid (B.out.below hb3 (by omega))
      replace D := hid (D.out.trans (hb3.mono (by omega)))
      replace Z := hid (box_grown Z.out hg3 ZN.out)
      have OJ := hid ho3
      replace hs : w.heap.size + 2 ≤ X4.heap.size := Nat.le_trans hs hb3.size
      clear hr3 ho3 hb3 hg3 OL OK
      refine wpAny_norm (n' := 6) (l' := #[true, true, true, true, true, false, false, false, false, true, false, false]) (a' := ⟨#[.agg (cellsOf S), .agg (cellsOf T), .pointer (some ⟨w.heap.size, 0, none⟩), .pointer (some ⟨w.heap.size + 1, 0, none⟩), .bool false, .pointer (some ⟨X0.heap.size, 0, none⟩), undef, undef, undef, .agg (cellsOf S), v, .agg (cellsOf T), u, v3, undef, undef, undef, undef, undef, undef, undef, undef, undef, undef, undef, undef, undef, undef, undef, undef, undef, undef, undef, undef, undef, undef, undef, undef, undef], []⟩) (by kernel_rfl) (by kernel_rfl) (by kernel_rfl) ?_
      refine wpAny_ready (rs := [5]) (by kernel_rfl) (by simp) ?_
      refine AllReady.cons rfl (fun K hK => ?_) ?_
      rotate_left
      · exact AllReady.nil
      go_simp
      go_wp2_with (go_at_call 8; refine (make_own OJ.out (by rw [List.length_append]; have := RL.out.length (by unfold top; omega); have := RK.out.length (by unfold top; omega); unfold top at *; omega) (fun p hp => by rcases List.mem_append.1 hp with h | h; exact RL.out.valid p h; exact RK.out.valid p h)).mono ?_; rintro e X5 ⟨rfl, hb⟩)
      clear OJ
      replace A := hid (A.out.below hb A.out.lt)
      replace B := hid (B.out.below hb B.out.lt)
      replace D := hid (D.out.trans (hb.mono D.out.size))
      replace Z := hid (Z.out.below hb Z.out.lt)
      replace hs : w.heap.size + 2 ≤ X5.heap.size := Nat.le_trans hs hb.size
      clear hb
      generalize hCS : cellsOf (Slot.ofList (l ++ k)) = CS
      refine wpAny_norm (n' := 5) (l' := #[true, true, true, true, true, true, false, false, false, true, false, false]) (a' := ⟨#[.agg (cellsOf S), .agg (cellsOf T), .pointer (some ⟨w.heap.size, 0, none⟩), .pointer (some ⟨w.heap.size + 1, 0, none⟩), .bool false, .pointer (some ⟨X0.heap.size, 0, none⟩), undef, undef, undef, .agg (cellsOf S), v, .agg (cellsOf T), u, v3, .tuple #[.agg CS, .int .i64 0], undef, undef, undef, undef, undef, undef, undef, undef, undef, undef, undef, undef, undef, undef, undef, undef, undef, undef, undef, undef, undef, undef, undef, undef], []⟩) (by kernel_rfl) (by kernel_rfl) (by kernel_rfl) ?_
      refine wpAny_take (i := 6) (v := .tuple #[.agg CS, .int .i64 0]) rfl (by kernel_rfl) (by kernel_rfl) (by kernel_rfl) (fun _ _ _ h => h) (Or.inl ⟨by rfl, fun _ => by go_simp⟩) ?_
      refine wpAny_norm (n' := 4) (l' := #[true, true, true, true, true, true, true, false, false, true, false, false]) (a' := ⟨#[.agg (cellsOf S), .agg (cellsOf T), .pointer (some ⟨w.heap.size, 0, none⟩), .pointer (some ⟨w.heap.size + 1, 0, none⟩), .bool false, .pointer (some ⟨X0.heap.size, 0, none⟩), undef, undef, .tuple #[.agg CS, .int .i64 0], .agg (cellsOf S), v, .agg (cellsOf T), u, v3, .tuple #[.agg CS, .int .i64 0], undef, undef, undef, undef, undef, undef, undef, undef, undef, undef, undef, undef, undef, undef, undef, undef, undef, undef, undef, undef, undef, undef, undef, undef], []⟩) (by kernel_rfl) (by kernel_rfl) (by kernel_rfl) ?_
      refine wpAny_take (i := 7) (v := .agg CS) rfl (by kernel_rfl) (by kernel_rfl) (by kernel_rfl) (fun _ _ _ h => h) (Or.inl ⟨by rfl, fun _ => by go_simp⟩) ?_
      refine wpAny_norm (n' := 3) (l' := #[true, true, true, true, true, true, true, true, false, true, false, false]) (a' := ⟨#[.agg (cellsOf S), .agg (cellsOf T), .pointer (some ⟨w.heap.size, 0, none⟩), .pointer (some ⟨w.heap.size + 1, 0, none⟩), .bool false, .pointer (some ⟨X0.heap.size, 0, none⟩), undef, undef, .tuple #[.agg CS, .int .i64 0], .agg (cellsOf S), v, .agg (cellsOf T), u, v3, .tuple #[.agg CS, .int .i64 0], .agg CS, undef, undef, undef, undef, undef, undef, undef, undef, undef, undef, undef, undef, undef, undef, undef, undef, undef, undef, undef, undef, undef, undef, undef], []⟩) (by kernel_rfl) (by kernel_rfl) (by kernel_rfl) ?_
      refine wpAny_take (i := 8) (v := .int .i64 0) rfl (by kernel_rfl) (by kernel_rfl) (by kernel_rfl) (fun _ _ _ h => h) (Or.inl ⟨by rfl, fun _ => by go_simp⟩) ?_
      refine wpAny_norm (n' := 2) (l' := #[true, true, true, true, true, true, true, true, true, true, false, false]) (a' := ⟨#[.agg (cellsOf S), .agg (cellsOf T), .pointer (some ⟨w.heap.size, 0, none⟩), .pointer (some ⟨w.heap.size + 1, 0, none⟩), .bool false, .pointer (some ⟨X0.heap.size, 0, none⟩), undef, undef, .tuple #[.agg CS, .int .i64 0], .agg (cellsOf S), v, .agg (cellsOf T), u, v3, .tuple #[.agg CS, .int .i64 0], .agg CS, .int .i64 0, undef, undef, undef, undef, undef, undef, undef, undef, undef, undef, undef, undef, undef, undef, undef, undef, undef, undef, undef, undef, undef, undef], []⟩) (by kernel_rfl) (by kernel_rfl) (by kernel_rfl) ?_
      refine wpAny_ready (rs := [10]) (by kernel_rfl) (by simp) ?_
      refine AllReady.cons rfl (fun K hK => ?_) ?_
      rotate_left
      · exact AllReady.nil
      refine step_store rfl 25 _ _ rfl X0.heap.size CS rfl rfl 25 _ Z.out (by rw [← hCS]; exact infoBits _) (by rw [← hCS]; exact sizes _ _) (by rw [← hCS]; exact oneCells _) (hK _ _ ?_)
      clear hK K
      have CB : Hid (Box (X5.setRow X0.heap.size CS) X0.heap.size (Slot.ofList (l ++ k))) := by rw [← hCS]; exact box_size Z.out
      replace A : Hid (Box (X5.setRow X0.heap.size CS) w.heap.size S) := (setRow_other _ _ _ _ (by omega)).trans A.out
      replace B : Hid (Box (X5.setRow X0.heap.size CS) (w.heap.size + 1) T) := (setRow_other _ _ _ _ (by omega)).trans B.out
      replace D : Hid (Below w.heap.size w (X5.setRow X0.heap.size CS)) := below_setRow D.out (by omega) _
      clear Z hs
      generalize X5.setRow X0.heap.size CS = X6 at A B D CB ⊢
      refine wpAny_norm (n' := 1) (l' := #[true, true, true, true, true, true, true, true, true, true, true, false]) (a' := ⟨#[.agg (cellsOf S), .agg (cellsOf T), .pointer (some ⟨w.heap.size, 0, none⟩), .pointer (some ⟨w.heap.size + 1, 0, none⟩), .bool false, .pointer (some ⟨X0.heap.size, 0, none⟩), undef, undef, .tuple #[.agg CS, .int .i64 0], .agg (cellsOf S), v, .agg (cellsOf T), u, v3, .tuple #[.agg CS, .int .i64 0], .agg CS, .int .i64 0, undef, undef, undef, undef, undef, undef, undef, undef, undef, undef, undef, undef, undef, undef, undef, undef, undef, undef, undef, undef, undef, undef], []⟩) (by kernel_rfl) (by kernel_rfl) (by kernel_rfl) ?_
      refine wpAny_take (i := 11) (v := .int .i64 0) rfl (by kernel_rfl) (by kernel_rfl) (by kernel_rfl) (fun _ _ _ h => h) (Or.inl ⟨by rfl, fun _ => by go_simp⟩) ?_
      refine wpAny_norm (n' := 0) (l' := #[true, true, true, true, true, true, true, true, true, true, true, true]) (a' := ⟨#[.agg (cellsOf S), .agg (cellsOf T), .pointer (some ⟨w.heap.size, 0, none⟩), .pointer (some ⟨w.heap.size + 1, 0, none⟩), .bool false, .pointer (some ⟨X0.heap.size, 0, none⟩), .int .i64 0, undef, .tuple #[.agg CS, .int .i64 0], .agg (cellsOf S), v, .agg (cellsOf T), u, v3, .tuple #[.agg CS, .int .i64 0], .agg CS, .int .i64 0, undef, undef, undef, undef, undef, undef, undef, undef, undef, undef, undef, undef, undef, undef, undef, undef, undef, undef, undef, undef, undef, undef], []⟩) (by kernel_rfl) (by kernel_rfl) (by kernel_rfl) ?_
      refine wpAny_done (by kernel_rfl) ?_ _
      exact rest.out X0.heap.size X6 (Slot.ofList (l ++ k)) _ _ _ _ _ _ _ _ _ A.out B.out CB.out (fun n hn => by rw [ofList_append, RL.out.ofList n (Nat.zero_le _) hn, RK.out.ofList n (Nat.zero_le _) hn]) hb5 D.out
    refine AllReady.cons rfl (fun K hK => ?_) ?_
    rotate_left
    · exact AllReady.nil
    refine step_load rfl 25 _ rfl (w.heap.size + 1) rfl 25 _ (0, 0) _ B.out Tryd.underlying25 rfl (infoBits _) (hK _ _ ?_)
    clear hK K
    refine wpAny_norm (n' := 9) (l' := #[true, false, true, false, false, false, false, false, false, true, false, false]) (a' := ⟨#[.agg (cellsOf S), .agg (cellsOf T), .pointer (some ⟨w.heap.size, 0, none⟩), .pointer (some ⟨w.heap.size + 1, 0, none⟩), .bool false, .pointer (some ⟨X0.heap.size, 0, none⟩), undef, undef, undef, .agg (cellsOf S), undef, .agg (cellsOf T), undef, undef, undef, undef, undef, undef, undef, undef, undef, undef, undef, undef, undef, undef, undef, undef, undef, undef, undef, undef, undef, undef, undef, undef, undef, undef, undef], []⟩) (by kernel_rfl) (by kernel_rfl) (by kernel_rfl) ?_
    refine wpAny_ready (rs := [1]) (by kernel_rfl) (by simp) ?_
    refine AllReady.cons rfl (fun K hK => ?_) ?_
    rotate_left
    · exact AllReady.nil
    go_simp
    go_wp2_with (go_at_call 9; refine (HRa.out _).mono ?_; rintro e X2 ⟨⟨l, v, rfl, hruns, hown⟩, hb⟩)
    have ZN : Hid (∀ q, v.ownBlock = some q → q ≠ X0.heap.size) := fun q hq => by have := (World.ownsRow.lt hown q hq).1; have := Z.out.lt; omega
    replace A := hid (A.out.below hb A.out.lt)
    replace B := hid (B.out.below hb B.out.lt)
    replace D := hid (D.out.trans (hb.mono D.out.size))
    replace Z := hid (Z.out.below hb Z.out.lt)
    have RL := hid hruns
    have OL := hid (owns_mono (B' := w.heap.size + 2) hown (by omega))
    replace hs : w.heap.size + 2 ≤ X2.heap.size := Nat.le_trans hs hb.size
    clear hruns hown hb
    refine wpAny_norm (n' := 8) (l' := #[true, true, true, false, false, false, false, false, false, true, false, false]) (a' := ⟨#[.agg (cellsOf S), .agg (cellsOf T), .pointer (some ⟨w.heap.size, 0, none⟩), .pointer (some ⟨w.heap.size + 1, 0, none⟩), .bool false, .pointer (some ⟨X0.heap.size, 0, none⟩), undef, undef, undef, .agg (cellsOf S), v, .agg (cellsOf T), undef, undef, undef, undef, undef, undef, undef, undef, undef, undef, undef, undef, undef, undef, undef, undef, undef, undef, undef, undef, undef, undef, undef, undef, undef, undef, undef], []⟩) (by kernel_rfl) (by kernel_rfl) (by kernel_rfl) ?_
    refine wpAny_ready (rs := [3]) (by kernel_rfl) (by simp) ?_
    refine AllReady.cons rfl (fun K hK => ?_) ?_
    rotate_left
    · exact AllReady.nil
    go_simp
    go_wp2_with (go_at_call 9; refine (HRb.out _).mono ?_; rintro e X3 ⟨⟨k, u, rfl, hruns, hown⟩, hb⟩)
    replace A := hid (A.out.below hb A.out.lt)
    replace B := hid (B.out.below hb B.out.lt)
    replace D := hid (D.out.trans (hb.mono D.out.size))
    replace Z := hid (Z.out.below hb Z.out.lt)
    replace OL := hid (owns_below OL.out hb)
    have RK := hid hruns
    have OK := hid (owns_mono (B' := w.heap.size + 2) hown (by omega))
    replace hs : w.heap.size + 2 ≤ X3.heap.size := Nat.le_trans hs hb.size
    clear hruns hown hb
    refine wpAny_norm (n' := 7) (l' := #[true, true, true, true, false, false, false, false, false, true, false, false]) (a' := ⟨#[.agg (cellsOf S), .agg (cellsOf T), .pointer (some ⟨w.heap.size, 0, none⟩), .pointer (some ⟨w.heap.size + 1, 0, none⟩), .bool false, .pointer (some ⟨X0.heap.size, 0, none⟩), undef, undef, undef, .agg (cellsOf S), v, .agg (cellsOf T), u, undef, undef, undef, undef, undef, undef, undef, undef, undef, undef, undef, undef, undef, undef, undef, undef, undef, undef, undef, undef, undef, undef, undef, undef, undef, undef], []⟩) (by kernel_rfl) (by kernel_rfl) (by kernel_rfl) ?_
    refine wpAny_ready (rs := [4]) (by kernel_rfl) (by simp) ?_
    refine AllReady.cons rfl (fun K hK => ?_) ?_
    rotate_left
    · exact AllReady.nil
    obtain ⟨v3, X4, hr3, ho3, hb3, hg3⟩ := join_run (w.heap.size + 2) _ X3 v u l k OL.out OK.out hs (by have := RL.out.length (by unfold top; omega); have := RK.out.length (by unfold top; omega); unfold top at *; omega)
    refine step_append_run rfl _ _ 31 rfl _ _ _ _ rfl rfl hr3 (hK _ _ ?_)
    clear hK K
    replace A := hid (A.out.below hb3 (by omega))
    replace B := hid (B.out.below hb3 (by omega))
    replace D := hid (D.out.trans (hb3.mono (by omega)))
    replace Z := hid (box_grown Z.out hg3 ZN.out)
    have OJ := hid ho3
    replace hs : w.heap.size + 2 ≤ X4.heap.size := Nat.le_trans hs hb3.size
    clear hr3 ho3 hb3 hg3 OL OK
    refine wpAny_norm (n' := 6) (l' := #[true, true, true, true, true, false, false, false, false, true, false, false]) (a' := ⟨#[.agg (cellsOf S), .agg (cellsOf T), .pointer (some ⟨w.heap.size, 0, none⟩), .pointer (some ⟨w.heap.size + 1, 0, none⟩), .bool false, .pointer (some ⟨X0.heap.size, 0, none⟩), undef, undef, undef, .agg (cellsOf S), v, .agg (cellsOf T), u, v3, undef, undef, undef, undef, undef, undef, undef, undef, undef, undef, undef, undef, undef, undef, undef, undef, undef, undef, undef, undef, undef, undef, undef, undef, undef], []⟩) (by kernel_rfl) (by kernel_rfl) (by kernel_rfl) ?_
    refine wpAny_ready (rs := [5]) (by kernel_rfl) (by simp) ?_
    refine AllReady.cons rfl (fun K hK => ?_) ?_
    rotate_left
    · exact AllReady.nil
    go_simp
    go_wp2_with (go_at_call 8; refine (make_own OJ.out (by rw [List.length_append]; have := RL.out.length (by unfold top; omega); have := RK.out.length (by unfold top; omega); unfold top at *; omega) (fun p hp => by rcases List.mem_append.1 hp with h | h; exact RL.out.valid p h; exact RK.out.valid p h)).mono ?_; rintro e X5 ⟨rfl, hb⟩)
    clear OJ
    replace A := hid (A.out.below hb A.out.lt)
    replace B := hid (B.out.below hb B.out.lt)
    replace D := hid (D.out.trans (hb.mono D.out.size))
    replace Z := hid (Z.out.below hb Z.out.lt)
    replace hs : w.heap.size + 2 ≤ X5.heap.size := Nat.le_trans hs hb.size
    clear hb
    generalize hCS : cellsOf (Slot.ofList (l ++ k)) = CS
    refine wpAny_norm (n' := 5) (l' := #[true, true, true, true, true, true, false, false, false, true, false, false]) (a' := ⟨#[.agg (cellsOf S), .agg (cellsOf T), .pointer (some ⟨w.heap.size, 0, none⟩), .pointer (some ⟨w.heap.size + 1, 0, none⟩), .bool false, .pointer (some ⟨X0.heap.size, 0, none⟩), undef, undef, undef, .agg (cellsOf S), v, .agg (cellsOf T), u, v3, .tuple #[.agg CS, .int .i64 0], undef, undef, undef, undef, undef, undef, undef, undef, undef, undef, undef, undef, undef, undef, undef, undef, undef, undef, undef, undef, undef, undef, undef, undef], []⟩) (by kernel_rfl) (by kernel_rfl) (by kernel_rfl) ?_
    refine wpAny_take (i := 6) (v := .tuple #[.agg CS, .int .i64 0]) rfl (by kernel_rfl) (by kernel_rfl) (by kernel_rfl) (fun _ _ _ h => h) (Or.inl ⟨by rfl, fun _ => by go_simp⟩) ?_
    refine wpAny_norm (n' := 4) (l' := #[true, true, true, true, true, true, true, false, false, true, false, false]) (a' := ⟨#[.agg (cellsOf S), .agg (cellsOf T), .pointer (some ⟨w.heap.size, 0, none⟩), .pointer (some ⟨w.heap.size + 1, 0, none⟩), .bool false, .pointer (some ⟨X0.heap.size, 0, none⟩), undef, undef, .tuple #[.agg CS, .int .i64 0], .agg (cellsOf S), v, .agg (cellsOf T), u, v3, .tuple #[.agg CS, .int .i64 0], undef, undef, undef, undef, undef, undef, undef, undef, undef, undef, undef, undef, undef, undef, undef, undef, undef, undef, undef, undef, undef, undef, undef, undef], []⟩) (by kernel_rfl) (by kernel_rfl) (by kernel_rfl) ?_
    refine wpAny_take (i := 7) (v := .agg CS) rfl (by kernel_rfl) (by kernel_rfl) (by kernel_rfl) (fun _ _ _ h => h) (Or.inl ⟨by rfl, fun _ => by go_simp⟩) ?_
    refine wpAny_norm (n' := 3) (l' := #[true, true, true, true, true, true, true, true, false, true, false, false]) (a' := ⟨#[.agg (cellsOf S), .agg (cellsOf T), .pointer (some ⟨w.heap.size, 0, none⟩), .pointer (some ⟨w.heap.size + 1, 0, none⟩), .bool false, .pointer (some ⟨X0.heap.size, 0, none⟩), undef, undef, .tuple #[.agg CS, .int .i64 0], .agg (cellsOf S), v, .agg (cellsOf T), u, v3, .tuple #[.agg CS, .int .i64 0], .agg CS, undef, undef, undef, undef, undef, undef, undef, undef, undef, undef, undef, undef, undef, undef, undef, undef, undef, undef, undef, undef, undef, undef, undef], []⟩) (by kernel_rfl) (by kernel_rfl) (by kernel_rfl) ?_
    refine wpAny_take (i := 8) (v := .int .i64 0) rfl (by kernel_rfl) (by kernel_rfl) (by kernel_rfl) (fun _ _ _ h => h) (Or.inl ⟨by rfl, fun _ => by go_simp⟩) ?_
    refine wpAny_norm (n' := 2) (l' := #[true, true, true, true, true, true, true, true, true, true, false, false]) (a' := ⟨#[.agg (cellsOf S), .agg (cellsOf T), .pointer (some ⟨w.heap.size, 0, none⟩), .pointer (some ⟨w.heap.size + 1, 0, none⟩), .bool false, .pointer (some ⟨X0.heap.size, 0, none⟩), undef, undef, .tuple #[.agg CS, .int .i64 0], .agg (cellsOf S), v, .agg (cellsOf T), u, v3, .tuple #[.agg CS, .int .i64 0], .agg CS, .int .i64 0, undef, undef, undef, undef, undef, undef, undef, undef, undef, undef, undef, undef, undef, undef, undef, undef, undef, undef, undef, undef, undef, undef], []⟩) (by kernel_rfl) (by kernel_rfl) (by kernel_rfl) ?_
    refine wpAny_ready (rs := [10]) (by kernel_rfl) (by simp) ?_
    refine AllReady.cons rfl (fun K hK => ?_) ?_
    rotate_left
    · exact AllReady.nil
    refine step_store rfl 25 _ _ rfl X0.heap.size CS rfl rfl 25 _ Z.out (by rw [← hCS]; exact infoBits _) (by rw [← hCS]; exact sizes _ _) (by rw [← hCS]; exact oneCells _) (hK _ _ ?_)
    clear hK K
    have CB : Hid (Box (X5.setRow X0.heap.size CS) X0.heap.size (Slot.ofList (l ++ k))) := by rw [← hCS]; exact box_size Z.out
    replace A : Hid (Box (X5.setRow X0.heap.size CS) w.heap.size S) := (setRow_other _ _ _ _ (by omega)).trans A.out
    replace B : Hid (Box (X5.setRow X0.heap.size CS) (w.heap.size + 1) T) := (setRow_other _ _ _ _ (by omega)).trans B.out
    replace D : Hid (Below w.heap.size w (X5.setRow X0.heap.size CS)) := below_setRow D.out (by omega) _
    clear Z hs
    generalize X5.setRow X0.heap.size CS = X6 at A B D CB ⊢
    refine wpAny_norm (n' := 1) (l' := #[true, true, true, true, true, true, true, true, true, true, true, false]) (a' := ⟨#[.agg (cellsOf S), .agg (cellsOf T), .pointer (some ⟨w.heap.size, 0, none⟩), .pointer (some ⟨w.heap.size + 1, 0, none⟩), .bool false, .pointer (some ⟨X0.heap.size, 0, none⟩), undef, undef, .tuple #[.agg CS, .int .i64 0], .agg (cellsOf S), v, .agg (cellsOf T), u, v3, .tuple #[.agg CS, .int .i64 0], .agg CS, .int .i64 0, undef, undef, undef, undef, undef, undef, undef, undef, undef, undef, undef, undef, undef, undef, undef, undef, undef, undef, undef, undef, undef, undef], []⟩) (by kernel_rfl) (by kernel_rfl) (by kernel_rfl) ?_
    refine wpAny_take (i := 11) (v := .int .i64 0) rfl (by kernel_rfl) (by kernel_rfl) (by kernel_rfl) (fun _ _ _ h => h) (Or.inl ⟨by rfl, fun _ => by go_simp⟩) ?_
    refine wpAny_norm (n' := 0) (l' := #[true, true, true, true, true, true, true, true, true, true, true, true]) (a' := ⟨#[.agg (cellsOf S), .agg (cellsOf T), .pointer (some ⟨w.heap.size, 0, none⟩), .pointer (some ⟨w.heap.size + 1, 0, none⟩), .bool false, .pointer (some ⟨X0.heap.size, 0, none⟩), .int .i64 0, undef, .tuple #[.agg CS, .int .i64 0], .agg (cellsOf S), v, .agg (cellsOf T), u, v3, .tuple #[.agg CS, .int .i64 0], .agg CS, .int .i64 0, undef, undef, undef, undef, undef, undef, undef, undef, undef, undef, undef, undef, undef, undef, undef, undef, undef, undef, undef, undef, undef, undef], []⟩) (by kernel_rfl) (by kernel_rfl) (by kernel_rfl) ?_
    refine wpAny_done (by kernel_rfl) ?_ _
    exact rest.out X0.heap.size X6 (Slot.ofList (l ++ k)) _ _ _ _ _ _ _ _ _ A.out B.out CB.out (fun n hn => by rw [ofList_append, RL.out.ofList n (Nat.zero_le _) hn, RK.out.ofList n (Nat.zero_le _) hn]) hb5 D.out
  refine AllReady.cons rfl (fun K hK => ?_) ?_
  · refine step_load rfl 25 _ rfl (w.heap.size + 1) rfl 25 _ (0, 0) _ B.out Tryd.underlying25 rfl (infoBits _) (hK _ _ ?_)
    clear hK K
    refine wpAny_norm (n' := 11) (l' := #[false, false, true, false, false, false, false, false, false, false, false, false]) (a' := ⟨#[.agg (cellsOf S), .agg (cellsOf T), .pointer (some ⟨w.heap.size, 0, none⟩), .pointer (some ⟨w.heap.size + 1, 0, none⟩), .bool false, undef, undef, undef, undef, undef, undef, .agg (cellsOf T), undef, undef, undef, undef, undef, undef, undef, undef, undef, undef, undef, undef, undef, undef, undef, undef, undef, undef, undef, undef, undef, undef, undef, undef, undef, undef, undef], []⟩) (by kernel_rfl) (by kernel_rfl) (by kernel_rfl) ?_
    refine wpAny_ready (rs := [0, 9]) (by kernel_rfl) (by simp) ?_
    refine AllReady.cons rfl (fun K hK => ?_) ?_
    · refine step_load rfl 25 _ rfl w.heap.size rfl 25 _ (0, 0) _ A.out Tryd.underlying25 rfl (infoBits _) (hK _ _ ?_)
      clear hK K
      refine wpAny_norm (n' := 10) (l' := #[true, false, true, false, false, false, false, false, false, false, false, false]) (a' := ⟨#[.agg (cellsOf S), .agg (cellsOf T), .pointer (some ⟨w.heap.size, 0, none⟩), .pointer (some ⟨w.heap.size + 1, 0, none⟩), .bool false, undef, undef, undef, undef, .agg (cellsOf S), undef, .agg (cellsOf T), undef, undef, undef, undef, undef, undef, undef, undef, undef, undef, undef, undef, undef, undef, undef, undef, undef, undef, undef, undef, undef, undef, undef, undef, undef, undef, undef], []⟩) (by kernel_rfl) (by kernel_rfl) (by kernel_rfl) ?_
      refine wpAny_ready (rs := [1, 9]) (by kernel_rfl) (by simp) ?_
      refine AllReady.cons rfl (fun K hK => ?_) ?_
      · go_simp
        go_wp2_with (go_at_call 9; refine (HRa.out _).mono ?_; rintro e X1 ⟨⟨l, v, rfl, hruns, hown⟩, hb⟩)
        replace A := hid (A.out.below hb A.out.lt)
        replace B := hid (B.out.below hb B.out.lt)
        replace D := hid (D.out.trans (hb.mono D.out.size))
        have RL := hid hruns
        have OL := hid (owns_mono (B' := w.heap.size + 2) hown (by omega))
        replace hs : w.heap.size + 2 ≤ X1.heap.size := Nat.le_trans hs hb.size
        clear hruns hown hb
        refine wpAny_norm (n' := 9) (l' := #[true, true, true, false, false, false, false, false, false, false, false, false]) (a' := ⟨#[.agg (cellsOf S), .agg (cellsOf T), .pointer (some ⟨w.heap.size, 0, none⟩), .pointer (some ⟨w.heap.size + 1, 0, none⟩), .bool false, undef, undef, undef, undef, .agg (cellsOf S), v, .agg (cellsOf T), undef, undef, undef, undef, undef, undef, undef, undef, undef, undef, undef, undef, undef, undef, undef, undef, undef, undef, undef, undef, undef, undef, undef, undef, undef, undef, undef], []⟩) (by kernel_rfl) (by kernel_rfl) (by kernel_rfl) ?_
        refine wpAny_ready (rs := [3, 9]) (by kernel_rfl) (by simp) ?_
        refine AllReady.cons rfl (fun K hK => ?_) ?_
        · go_simp
          go_wp2_with (go_at_call 9; refine (HRb.out _).mono ?_; rintro e X2 ⟨⟨k, u, rfl, hruns, hown⟩, hb⟩)
          replace A := hid (A.out.below hb A.out.lt)
          replace B := hid (B.out.below hb B.out.lt)
          replace D := hid (D.out.trans (hb.mono D.out.size))
          replace OL := hid (owns_below OL.out hb)
          have RK := hid hruns
          have OK := hid (owns_mono (B' := w.heap.size + 2) hown (by omega))
          replace hs : w.heap.size + 2 ≤ X2.heap.size := Nat.le_trans hs hb.size
          clear hruns hown hb
          refine wpAny_norm (n' := 8) (l' := #[true, true, true, true, false, false, false, false, false, false, false, false]) (a' := ⟨#[.agg (cellsOf S), .agg (cellsOf T), .pointer (some ⟨w.heap.size, 0, none⟩), .pointer (some ⟨w.heap.size + 1, 0, none⟩), .bool false, undef, undef, undef, undef, .agg (cellsOf S), v, .agg (cellsOf T), u, undef, undef, undef, undef, undef, undef, undef, undef, undef, undef, undef, undef, undef, undef, undef, undef, undef, undef, undef, undef, undef, undef, undef, undef, undef, undef], []⟩) (by kernel_rfl) (by kernel_rfl) (by kernel_rfl) ?_
          refine wpAny_ready (rs := [4, 9]) (by kernel_rfl) (by simp) ?_
          refine AllReady.cons rfl (fun K hK => ?_) ?_
          · obtain ⟨v3, X3, hr3, ho3, hb3, hg3⟩ := join_run (w.heap.size + 2) _ X2 v u l k OL.out OK.out hs (by have := RL.out.length (by unfold top; omega); have := RK.out.length (by unfold top; omega); unfold top at *; omega)
            refine step_append_run rfl _ _ 31 rfl _ _ _ _ rfl rfl hr3 (hK _ _ ?_)
            clear hK K
            replace A := hid (A.out.below hb3 (by omega))
            replace B := hid (B.out.below hb3 (by omega))
            replace D := hid (D.out.trans (hb3.mono (by omega)))
            have OJ := hid ho3
            replace hs : w.heap.size + 2 ≤ X3.heap.size := Nat.le_trans hs hb3.size
            clear hr3 ho3 hb3 hg3 OL OK
            refine wpAny_norm (n' := 7) (l' := #[true, true, true, true, true, false, false, false, false, false, false, false]) (a' := ⟨#[.agg (cellsOf S), .agg (cellsOf T), .pointer (some ⟨w.heap.size, 0, none⟩), .pointer (some ⟨w.heap.size + 1, 0, none⟩), .bool false, undef, undef, undef, undef, .agg (cellsOf S), v, .agg (cellsOf T), u, v3, undef, undef, undef, undef, undef, undef, undef, undef, undef, undef, undef, undef, undef, undef, undef, undef, undef, undef, undef, undef, undef, undef, undef, undef, undef], []⟩) (by kernel_rfl) (by kernel_rfl) (by kernel_rfl) ?_
            refine wpAny_ready (rs := [5, 9]) (by kernel_rfl) (by simp) ?_
            refine AllReady.cons rfl (fun K hK => ?_) ?_
            · go_simp
              go_wp2_with (go_at_call 8; refine (make_own OJ.out (by rw [List.length_append]; have := RL.out.length (by unfold top; omega); have := RK.out.length (by unfold top; omega); unfold top at *; omega) (fun p hp => by rcases List.mem_append.1 hp with h | h; exact RL.out.valid p h; exact RK.out.valid p h)).mono ?_; rintro e X4 ⟨rfl, hb⟩)
              clear OJ
              replace A := hid (A.out.below hb A.out.lt)
              replace B := hid (B.out.below hb B.out.lt)
              replace D := hid (D.out.trans (hb.mono D.out.size))
              replace hs : w.heap.size + 2 ≤ X4.heap.size := Nat.le_trans hs hb.size
              clear hb
              generalize hCS : cellsOf (Slot.ofList (l ++ k)) = CS
              refine wpAny_norm (n' := 6) (l' := #[true, true, true, true, true, true, false, false, false, false, false, false]) (a' := ⟨#[.agg (cellsOf S), .agg (cellsOf T), .pointer (some ⟨w.heap.size, 0, none⟩), .pointer (some ⟨w.heap.size + 1, 0, none⟩), .bool false, undef, undef, undef, undef, .agg (cellsOf S), v, .agg (cellsOf T), u, v3, .tuple #[.agg CS, .int .i64 0], undef, undef, undef, undef, undef, undef, undef, undef, undef, undef, undef, undef, undef, undef, undef, undef, undef, undef, undef, undef, undef, undef, undef, undef], []⟩) (by kernel_rfl) (by kernel_rfl) (by kernel_rfl) ?_
              refine wpAny_take (i := 6) (v := .tuple #[.agg CS, .int .i64 0]) rfl (by kernel_rfl) (by kernel_rfl) (by kernel_rfl) (fun _ _ _ h => h) (Or.inl ⟨by rfl, fun _ => by go_simp⟩) ?_
              refine wpAny_norm (n' := 5) (l' := #[true, true, true, true, true, true, true, false, false, false, false, false]) (a' := ⟨#[.agg (cellsOf S), .agg (cellsOf T), .pointer (some ⟨w.heap.size, 0, none⟩), .pointer (some ⟨w.heap.size + 1, 0, none⟩), .bool false, undef, undef, undef, .tuple #[.agg CS, .int .i64 0], .agg (cellsOf S), v, .agg (cellsOf T), u, v3, .tuple #[.agg CS, .int .i64 0], undef, undef, undef, undef, undef, undef, undef, undef, undef, undef, undef, undef, undef, undef, undef, undef, undef, undef, undef, undef, undef, undef, undef, undef], []⟩) (by kernel_rfl) (by kernel_rfl) (by kernel_rfl) ?_
              refine wpAny_take (i := 7) (v := .agg CS) rfl (by kernel_rfl) (by kernel_rfl) (by kernel_rfl) (fun _ _ _ h => h) (Or.inl ⟨by rfl, fun _ => by go_simp⟩) ?_
              refine wpAny_norm (n' := 4) (l' := #[true, true, true, true, true, true, true, true, false, false, false, false]) (a' := ⟨#[.agg (cellsOf S), .agg (cellsOf T), .pointer (some ⟨w.heap.size, 0, none⟩), .pointer (some ⟨w.heap.size + 1, 0, none⟩), .bool false, undef, undef, undef, .tuple #[.agg CS, .int .i64 0], .agg (cellsOf S), v, .agg (cellsOf T), u, v3, .tuple #[.agg CS, .int .i64 0], .agg CS, undef, undef, undef, undef, undef, undef, undef, undef, undef, undef, undef, undef, undef, undef, undef, undef, undef, undef, undef, undef, undef, undef, undef], []⟩) (by kernel_rfl) (by kernel_rfl) (by kernel_rfl) ?_
              refine wpAny_take (i := 8) (v := .int .i64 0) rfl (by kernel_rfl) (by kernel_rfl) (by kernel_rfl) (fun _ _ _ h => h) (Or.inl ⟨by rfl, fun _ => by go_simp⟩) ?_
              refine wpAny_norm (n' := 3) (l' := #[true, true, true, true, true, true, true, true, true, false, false, false]) (a' := ⟨#[.agg (cellsOf S), .agg (cellsOf T), .pointer (some ⟨w.heap.size, 0, none⟩), .pointer (some ⟨w.heap.size + 1, 0, none⟩), .bool false, undef, undef, undef, .tuple #[.agg CS, .int .i64 0], .agg (cellsOf S), v, .agg (cellsOf T), u, v3, .tuple #[.agg CS, .int .i64 0], .agg CS, .int .i64 0, undef, undef, undef, undef, undef, undef, undef, undef, undef, undef, undef, undef, undef, undef, undef, undef, undef, undef, undef, undef, undef, undef], []⟩) (by kernel_rfl) (by kernel_rfl) (by kernel_rfl) ?_
              refine wpAny_ready (rs := [9]) (by kernel_rfl) (by simp) ?_
              refine AllReady.cons rfl (fun K hK => ?_) ?_
              rotate_left
              · exact AllReady.nil
              go_simp
              refine hK _ _ ?_
              clear hK K
              have hb := below_alloc X4 (.cells (cellsOf fun _ => false) 25)
              replace A := hid (A.out.below hb A.out.lt)
              replace B := hid (B.out.below hb B.out.lt)
              replace D := hid (D.out.trans (hb.mono D.out.size))
              have Z := hid (box_new X4 (fun _ => false))
              have hb5 : w.heap.size + 2 ≤ X4.heap.size := hs
              replace hs : w.heap.size + 2 ≤ (X4.alloc (.cells (cellsOf fun _ => false) 25)).heap.size := Nat.le_trans hs hb.size
              clear hb
              generalize X4.alloc (.cells (cellsOf fun _ => false) 25) = X5 at A B D Z hs ⊢
              refine wpAny_norm (n' := 2) (l' := #[true, true, true, true, true, true, true, true, true, true, false, false]) (a' := ⟨#[.agg (cellsOf S), .agg (cellsOf T), .pointer (some ⟨w.heap.size, 0, none⟩), .pointer (some ⟨w.heap.size + 1, 0, none⟩), .bool false, .pointer (some ⟨X4.heap.size, 0, none⟩), undef, undef, .tuple #[.agg CS, .int .i64 0], .agg (cellsOf S), v, .agg (cellsOf T), u, v3, .tuple #[.agg CS, .int .i64 0], .agg CS, .int .i64 0, undef, undef, undef, undef, undef, undef, undef, undef, undef, undef, undef, undef, undef, undef, undef, undef, undef, undef, undef, undef, undef, undef], []⟩) (by kernel_rfl) (by kernel_rfl) (by kernel_rfl) ?_
              refine wpAny_ready (rs := [10]) (by kernel_rfl) (by simp) ?_
              refine AllReady.cons rfl (fun K hK => ?_) ?_
              rotate_left
              · exact AllReady.nil
              refine step_store rfl 25 _ _ rfl X4.heap.size CS rfl rfl 25 _ Z.out (by rw [← hCS]; exact infoBits _) (by rw [← hCS]; exact sizes _ _) (by rw [← hCS]; exact oneCells _) (hK _ _ ?_)
              clear hK K
              have CB : Hid (Box (X5.setRow X4.heap.size CS) X4.heap.size (Slot.ofList (l ++ k))) := by rw [← hCS]; exact box_size Z.out
              replace A : Hid (Box (X5.setRow X4.heap.size CS) w.heap.size S) := (setRow_other _ _ _ _ (by omega)).trans A.out
              replace B : Hid (Box (X5.setRow X4.heap.size CS) (w.heap.size + 1) T) := (setRow_other _ _ _ _ (by omega)).trans B.out
              replace D : Hid (Below w.heap.size w (X5.setRow X4.heap.size CS)) := below_setRow D.out (by omega) _
              clear Z hs
              generalize X5.setRow X4.heap.size CS = X6 at A B D CB ⊢
              refine wpAny_norm (n' := 1) (l' := #[true, true, true, true, true, true, true, true, true, true, true, false]) (a' := ⟨#[.agg (cellsOf S), .agg (cellsOf T), .pointer (some ⟨w.heap.size, 0, none⟩), .pointer (some ⟨w.heap.size + 1, 0, none⟩), .bool false, .pointer (some ⟨X4.heap.size, 0, none⟩), undef, undef, .tuple #[.agg CS, .int .i64 0], .agg (cellsOf S), v, .agg (cellsOf T), u, v3, .tuple #[.agg CS, .int .i64 0], .agg CS, .int .i64 0, undef, undef, undef, undef, undef, undef, undef, undef, undef, undef, undef, undef, undef, undef, undef, undef, undef, undef, undef, undef, undef, undef], []⟩) (by kernel_rfl) (by kernel_rfl) (by kernel_rfl) ?_
              refine wpAny_take (i := 11) (v := .int .i64 0) rfl (by kernel_rfl) (by kernel_rfl) (by kernel_rfl) (fun _ _ _ h => h) (Or.inl ⟨by rfl, fun _ => by go_simp⟩) ?_
              refine wpAny_norm (n' := 0) (l' := #[true, true, true, true, true, true, true, true, true, true, true, true]) (a' := ⟨#[.agg (cellsOf S), .agg (cellsOf T), .pointer (some ⟨w.heap.size, 0, none⟩), .pointer (some ⟨w.heap.size + 1, 0, none⟩), .bool false, .pointer (some ⟨X4.heap.size, 0, none⟩), .int .i64 0, undef, .tuple #[.agg CS, .int .i64 0], .agg (cellsOf S), v, .agg (cellsOf T), u, v3, .tuple #[.agg CS, .int .i64 0], .agg CS, .int .i64 0, undef, undef, undef, undef, undef, undef, undef, undef, undef, undef, undef, undef, undef, undef, undef, undef, undef, undef, undef, undef, undef, undef], []⟩) (by kernel_rfl) (by kernel_rfl) (by kernel_rfl) ?_
              refine wpAny_done (by kernel_rfl) ?_ _
              exact rest.out X4.heap.size X6 (Slot.ofList (l ++ k)) _ _ _ _ _ _ _ _ _ A.out B.out CB.out (fun n hn => by rw [ofList_append, RL.out.ofList n (Nat.zero_le _) hn, RK.out.ofList n (Nat.zero_le _) hn]) hb5 D.out
            refine AllReady.cons rfl (fun K hK => ?_) ?_
            rotate_left
            · exact AllReady.nil
            go_simp
            refine hK _ _ ?_
            clear hK K
            have hb := below_alloc X3 (.cells (cellsOf fun _ => false) 25)
            replace A := hid (A.out.below hb A.out.lt)
            replace B := hid (B.out.below hb B.out.lt)
            replace D := hid (D.out.trans (hb.mono D.out.size))
            replace OJ := hid (owns_below OJ.out hb)
            have Z := hid (box_new X3 (fun _ => false))
            have hb5 : w.heap.size + 2 ≤ X3.heap.size := hs
            replace hs : w.heap.size + 2 ≤ (X3.alloc (.cells (cellsOf fun _ => false) 25)).heap.size := Nat.le_trans hs hb.size
            clear hb
            generalize X3.alloc (.cells (cellsOf fun _ => false) 25) = X4 at A B D Z hs OJ ⊢
            refine wpAny_norm (n' := 6) (l' := #[true, true, true, true, true, false, false, false, false, true, false, false]) (a' := ⟨#[.agg (cellsOf S), .agg (cellsOf T), .pointer (some ⟨w.heap.size, 0, none⟩), .pointer (some ⟨w.heap.size + 1, 0, none⟩), .bool false, .pointer (some ⟨X3.heap.size, 0, none⟩), undef, undef, undef, .agg (cellsOf S), v, .agg (cellsOf T), u, v3, undef, undef, undef, undef, undef, undef, undef, undef, undef, undef, undef, undef, undef, undef, undef, undef, undef, undef, undef, undef, undef, undef, undef, undef, undef], []⟩) (by kernel_rfl) (by kernel_rfl) (by kernel_rfl) ?_
            refine wpAny_ready (rs := [5]) (by kernel_rfl) (by simp) ?_
            refine AllReady.cons rfl (fun K hK => ?_) ?_
            rotate_left
            · exact AllReady.nil
            go_simp
            go_wp2_with (go_at_call 8; refine (make_own OJ.out (by rw [List.length_append]; have := RL.out.length (by unfold top; omega); have := RK.out.length (by unfold top; omega); unfold top at *; omega) (fun p hp => by rcases List.mem_append.1 hp with h | h; exact RL.out.valid p h; exact RK.out.valid p h)).mono ?_; rintro e X5 ⟨rfl, hb⟩)
            clear OJ
            replace A := hid (A.out.below hb A.out.lt)
            replace B := hid (B.out.below hb B.out.lt)
            replace D := hid (D.out.trans (hb.mono D.out.size))
            replace Z := hid (Z.out.below hb Z.out.lt)
            replace hs : w.heap.size + 2 ≤ X5.heap.size := Nat.le_trans hs hb.size
            clear hb
            generalize hCS : cellsOf (Slot.ofList (l ++ k)) = CS
            refine wpAny_norm (n' := 5) (l' := #[true, true, true, true, true, true, false, false, false, true, false, false]) (a' := ⟨#[.agg (cellsOf S), .agg (cellsOf T), .pointer (some ⟨w.heap.size, 0, none⟩), .pointer (some ⟨w.heap.size + 1, 0, none⟩), .bool false, .pointer (some ⟨X3.heap.size, 0, none⟩), undef, undef, undef, .agg (cellsOf S), v, .agg (cellsOf T), u, v3, .tuple #[.agg CS, .int .i64 0], undef, undef, undef, undef, undef, undef, undef, undef, undef, undef, undef, undef, undef, undef, undef, undef, undef, undef, undef, undef, undef, undef, undef, undef], []⟩) (by kernel_rfl) (by kernel_rfl) (by kernel_rfl) ?_
            refine wpAny_take (i := 6) (v := .tuple #[.agg CS, .int .i64 0]) rfl (by kernel_rfl) (by kernel_rfl) (by kernel_rfl) (fun _ _ _ h => h) (Or.inl ⟨by rfl, fun _ => by go_simp⟩) ?_
            refine wpAny_norm (n' := 4) (l' := #[true, true, true, true, true, true, true, false, false, true, false, false]) (a' := ⟨#[.agg (cellsOf S), .agg (cellsOf T), .pointer (some ⟨w.heap.size, 0, none⟩), .pointer (some ⟨w.heap.size + 1, 0, none⟩), .bool false, .pointer (some ⟨X3.heap.size, 0, none⟩), undef, undef, .tuple #[.agg CS, .int .i64 0], .agg (cellsOf S), v, .agg (cellsOf T), u, v3, .tuple #[.agg CS, .int .i64 0], undef, undef, undef, undef, undef, undef, undef, undef, undef, undef, undef, undef, undef, undef, undef, undef, undef, undef, undef, undef, undef, undef, undef, undef], []⟩) (by kernel_rfl) (by kernel_rfl) (by kernel_rfl) ?_
            refine wpAny_take (i := 7) (v := .agg CS) rfl (by kernel_rfl) (by kernel_rfl) (by kernel_rfl) (fun _ _ _ h => h) (Or.inl ⟨by rfl, fun _ => by go_simp⟩) ?_
            refine wpAny_norm (n' := 3) (l' := #[true, true, true, true, true, true, true, true, false, true, false, false]) (a' := ⟨#[.agg (cellsOf S), .agg (cellsOf T), .pointer (some ⟨w.heap.size, 0, none⟩), .pointer (some ⟨w.heap.size + 1, 0, none⟩), .bool false, .pointer (some ⟨X3.heap.size, 0, none⟩), undef, undef, .tuple #[.agg CS, .int .i64 0], .agg (cellsOf S), v, .agg (cellsOf T), u, v3, .tuple #[.agg CS, .int .i64 0], .agg CS, undef, undef, undef, undef, undef, undef, undef, undef, undef, undef, undef, undef, undef, undef, undef, undef, undef, undef, undef, undef, undef, undef, undef], []⟩) (by kernel_rfl) (by kernel_rfl) (by kernel_rfl) ?_
            refine wpAny_take (i := 8) (v := .int .i64 0) rfl (by kernel_rfl) (by kernel_rfl) (by kernel_rfl) (fun _ _ _ h => h) (Or.inl ⟨by rfl, fun _ => by go_simp⟩) ?_
            refine wpAny_norm (n' := 2) (l' := #[true, true, true, true, true, true, true, true, true, true, false, false]) (a' := ⟨#[.agg (cellsOf S), .agg (cellsOf T), .pointer (some ⟨w.heap.size, 0, none⟩), .pointer (some ⟨w.heap.size + 1, 0, none⟩), .bool false, .pointer (some ⟨X3.heap.size, 0, none⟩), undef, undef, .tuple #[.agg CS, .int .i64 0], .agg (cellsOf S), v, .agg (cellsOf T), u, v3, .tuple #[.agg CS, .int .i64 0], .agg CS, .int .i64 0, undef, undef, undef, undef, undef, undef, undef, undef, undef, undef, undef, undef, undef, undef, undef, undef, undef, undef, undef, undef, undef, undef], []⟩) (by kernel_rfl) (by kernel_rfl) (by kernel_rfl) ?_
            refine wpAny_ready (rs := [10]) (by kernel_rfl) (by simp) ?_
            refine AllReady.cons rfl (fun K hK => ?_) ?_
            rotate_left
            · exact AllReady.nil
            refine step_store rfl 25 _ _ rfl X3.heap.size CS rfl rfl 25 _ Z.out (by rw [← hCS]; exact infoBits _) (by rw [← hCS]; exact sizes _ _) (by rw [← hCS]; exact oneCells _) (hK _ _ ?_)
            clear hK K
            have CB : Hid (Box (X5.setRow X3.heap.size CS) X3.heap.size (Slot.ofList (l ++ k))) := by rw [← hCS]; exact box_size Z.out
            replace A : Hid (Box (X5.setRow X3.heap.size CS) w.heap.size S) := (setRow_other _ _ _ _ (by omega)).trans A.out
            replace B : Hid (Box (X5.setRow X3.heap.size CS) (w.heap.size + 1) T) := (setRow_other _ _ _ _ (by omega)).trans B.out
            replace D : Hid (Below w.heap.size w (X5.setRow X3.heap.size CS)) := below_setRow D.out (by omega) _
            clear Z hs
            generalize X5.setRow X3.heap.size CS = X6 at A B D CB ⊢
            refine wpAny_norm (n' := 1) (l' := #[true, true, true, true, true, true, true, true, true, true, true, false]) (a' := ⟨#[.agg (cellsOf S), .agg (cellsOf T), .pointer (some ⟨w.heap.size, 0, none⟩), .pointer (some ⟨w.heap.size + 1, 0, none⟩), .bool false, .pointer (some ⟨X3.heap.size, 0, none⟩), undef, undef, .tuple #[.agg CS, .int .i64 0], .agg (cellsOf S), v, .agg (cellsOf T), u, v3, .tuple #[.agg CS, .int .i64 0], .agg CS, .int .i64 0, undef, undef, undef, undef, undef, undef, undef, undef, undef, undef, undef, undef, undef, undef, undef, undef, undef, undef, undef, undef, undef, undef], []⟩) (by kernel_rfl) (by kernel_rfl) (by kernel_rfl) ?_
            refine wpAny_take (i := 11) (v := .int .i64 0) rfl (by kernel_rfl) (by kernel_rfl) (by kernel_rfl) (fun _ _ _ h => h) (Or.inl ⟨by rfl, fun _ => by go_simp⟩) ?_
            refine wpAny_norm (n' := 0) (l' := #[true, true, true, true, true, true, true, true, true, true, true, true]) (a' := ⟨#[.agg (cellsOf S), .agg (cellsOf T), .pointer (some ⟨w.heap.size, 0, none⟩), .pointer (some ⟨w.heap.size + 1, 0, none⟩), .bool false, .pointer (some ⟨X3.heap.size, 0, none⟩), .int .i64 0, undef, .tuple #[.agg CS, .int .i64 0], .agg (cellsOf S), v, .agg (cellsOf T), u, v3, .tuple #[.agg CS, .int .i64 0], .agg CS, .int .i64 0, undef, undef, undef, undef, undef, undef, undef, undef, undef, undef, undef, undef, undef, undef, undef, undef, undef, undef, undef, undef, undef, undef], []⟩) (by kernel_rfl) (by kernel_rfl) (by kernel_rfl) ?_
            refine wpAny_done (by kernel_rfl) ?_ _
            exact rest.out X3.heap.size X6 (Slot.ofList (l ++ k)) _ _ _ _ _ _ _ _ _ A.out B.out CB.out (fun n hn => by rw [ofList_append, RL.out.ofList n (Nat.zero_le _) hn, RK.out.ofList n (Nat.zero_le _) hn]) hb5 D.out
          refine AllReady.cons rfl (fun K hK => ?_) ?_
          rotate_left
          · exact AllReady.nil
          go_simp
          refine hK _ _ ?_
          clear hK K
          have hb := below_alloc X2 (.cells (cellsOf fun _ => false) 25)
          have ZN : Hid (∀ q, v.ownBlock = some q → q ≠ X2.heap.size) := fun q hq => by have := (World.ownsRow.lt OL.out q hq).2; omega
          replace A := hid (A.out.below hb A.out.lt)
          replace B := hid (B.out.below hb B.out.lt)
          replace D := hid (D.out.trans (hb.mono D.out.size))
          replace OL := hid (owns_below OL.out hb)
          replace OK := hid (owns_below OK.out hb)
          have Z := hid (box_new X2 (fun _ => false))
          have hb5 : w.heap.size + 2 ≤ X2.heap.size := hs
          replace hs : w.heap.size + 2 ≤ (X2.alloc (.cells (cellsOf fun _ => false) 25)).heap.size := Nat.le_trans hs hb.size
          clear hb
          generalize X2.alloc (.cells (cellsOf fun _ => false) 25) = X3 at A B D Z hs OL OK ⊢
          refine wpAny_norm (n' := 7) (l' := #[true, true, true, true, false, false, false, false, false, true, false, false]) (a' := ⟨#[.agg (cellsOf S), .agg (cellsOf T), .pointer (some ⟨w.heap.size, 0, none⟩), .pointer (some ⟨w.heap.size + 1, 0, none⟩), .bool false, .pointer (some ⟨X2.heap.size, 0, none⟩), undef, undef, undef, .agg (cellsOf S), v, .agg (cellsOf T), u, undef, undef, undef, undef, undef, undef, undef, undef, undef, undef, undef, undef, undef, undef, undef, undef, undef, undef, undef, undef, undef, undef, undef, undef, undef, undef], []⟩) (by kernel_rfl) (by kernel_rfl) (by kernel_rfl) ?_
          refine wpAny_ready (rs := [4]) (by kernel_rfl) (by simp) ?_
          refine AllReady.cons rfl (fun K hK => ?_) ?_
          rotate_left
          · exact AllReady.nil
          obtain ⟨v3, X4, hr3, ho3, hb3, hg3⟩ := join_run (w.heap.size + 2) _ X3 v u l k OL.out OK.out hs (by have := RL.out.length (by unfold top; omega); have := RK.out.length (by unfold top; omega); unfold top at *; omega)
          refine step_append_run rfl _ _ 31 rfl _ _ _ _ rfl rfl hr3 (hK _ _ ?_)
          clear hK K
          replace A := hid (A.out.below hb3 (by omega))
          replace B := hid (B.out.below hb3 (by omega))
          replace D := hid (D.out.trans (hb3.mono (by omega)))
          replace Z := hid (box_grown Z.out hg3 ZN.out)
          have OJ := hid ho3
          replace hs : w.heap.size + 2 ≤ X4.heap.size := Nat.le_trans hs hb3.size
          clear hr3 ho3 hb3 hg3 OL OK
          refine wpAny_norm (n' := 6) (l' := #[true, true, true, true, true, false, false, false, false, true, false, false]) (a' := ⟨#[.agg (cellsOf S), .agg (cellsOf T), .pointer (some ⟨w.heap.size, 0, none⟩), .pointer (some ⟨w.heap.size + 1, 0, none⟩), .bool false, .pointer (some ⟨X2.heap.size, 0, none⟩), undef, undef, undef, .agg (cellsOf S), v, .agg (cellsOf T), u, v3, undef, undef, undef, undef, undef, undef, undef, undef, undef, undef, undef, undef, undef, undef, undef, undef, undef, undef, undef, undef, undef, undef, undef, undef, undef], []⟩) (by kernel_rfl) (by kernel_rfl) (by kernel_rfl) ?_
          refine wpAny_ready (rs := [5]) (by kernel_rfl) (by simp) ?_
          refine AllReady.cons rfl (fun K hK => ?_) ?_
          rotate_left
          · exact AllReady.nil
          go_simp
          go_wp2_with (go_at_call 8; refine (make_own OJ.out (by rw [List.length_append]; have := RL.out.length (by unfold top; omega); have := RK.out.length (by unfold top; omega); unfold top at *; omega) (fun p hp => by rcases List.mem_append.1 hp with h | h; exact RL.out.valid p h; exact RK.out.valid p h)).mono ?_; rintro e X5 ⟨rfl, hb⟩)
          clear OJ
          replace A := hid (A.out.below hb A.out.lt)
          replace B := hid (B.out.below hb B.out.lt)
          replace D := hid (D.out.trans (hb.mono D.out.size))
          replace Z := hid (Z.out.below hb Z.out.lt)
          replace hs : w.heap.size + 2 ≤ X5.heap.size := Nat.le_trans hs hb.size
          clear hb
          generalize hCS : cellsOf (Slot.ofList (l ++ k)) = CS
          refine wpAny_norm (n' := 5) (l' := #[true, true, true, true, true, true, false, false, false, true, false, false]) (a' := ⟨#[.agg (cellsOf S), .agg (cellsOf T), .pointer (some ⟨w.heap.size, 0, none⟩), .pointer (some ⟨w.heap.size + 1, 0, none⟩), .bool false, .pointer (some ⟨X2.heap.size, 0, none⟩), undef, undef, undef, .agg (cellsOf S), v, .agg (cellsOf T), u, v3, .tuple #[.agg CS, .int .i64 0], undef, undef, undef, undef, undef, undef, undef, undef, undef, undef, undef, undef, undef, undef, undef, undef, undef, undef, undef, undef, undef, undef, undef, undef], []⟩) (by kernel_rfl) (by kernel_rfl) (by kernel_rfl) ?_
          refine wpAny_take (i := 6) (v := .tuple #[.agg CS, .int .i64 0]) rfl (by kernel_rfl) (by kernel_rfl) (by kernel_rfl) (fun _ _ _ h => h) (Or.inl ⟨by rfl, fun _ => by go_simp⟩) ?_
          refine wpAny_norm (n' := 4) (l' := #[true, true, true, true, true, true, true, false, false, true, false, false]) (a' := ⟨#[.agg (cellsOf S), .agg (cellsOf T), .pointer (some ⟨w.heap.size, 0, none⟩), .pointer (some ⟨w.heap.size + 1, 0, none⟩), .bool false, .pointer (some ⟨X2.heap.size, 0, none⟩), undef, undef, .tuple #[.agg CS, .int .i64 0], .agg (cellsOf S), v, .agg (cellsOf T), u, v3, .tuple #[.agg CS, .int .i64 0], undef, undef, undef, undef, undef, undef, undef, undef, undef, undef, undef, undef, undef, undef, undef, undef, undef, undef, undef, undef, undef, undef, undef, undef], []⟩) (by kernel_rfl) (by kernel_rfl) (by kernel_rfl) ?_
          refine wpAny_take (i := 7) (v := .agg CS) rfl (by kernel_rfl) (by kernel_rfl) (by kernel_rfl) (fun _ _ _ h => h) (Or.inl ⟨by rfl, fun _ => by go_simp⟩) ?_
          refine wpAny_norm (n' := 3) (l' := #[true, true, true, true, true, true, true, true, false, true, false, false]) (a' := ⟨#[.agg (cellsOf S), .agg (cellsOf T), .pointer (some ⟨w.heap.size, 0, none⟩), .pointer (some ⟨w.heap.size + 1, 0, none⟩), .bool false, .pointer (some ⟨X2.heap.size, 0, none⟩), undef, undef, .tuple #[.agg CS, .int .i64 0], .agg (cellsOf S), v, .agg (cellsOf T), u, v3, .tuple #[.agg CS, .int .i64 0], .agg CS, undef, undef, undef, undef, undef, undef, undef, undef, undef, undef, undef, undef, undef, undef, undef, undef, undef, undef, undef, undef, undef, undef, undef], []⟩) (by kernel_rfl) (by kernel_rfl) (by kernel_rfl) ?_
          refine wpAny_take (i := 8) (v := .int .i64 0) rfl (by kernel_rfl) (by kernel_rfl) (by kernel_rfl) (fun _ _ _ h => h) (Or.inl ⟨by rfl, fun _ => by go_simp⟩) ?_
          refine wpAny_norm (n' := 2) (l' := #[true, true, true, true, true, true, true, true, true, true, false, false]) (a' := ⟨#[.agg (cellsOf S), .agg (cellsOf T), .pointer (some ⟨w.heap.size, 0, none⟩), .pointer (some ⟨w.heap.size + 1, 0, none⟩), .bool false, .pointer (some ⟨X2.heap.size, 0, none⟩), undef, undef, .tuple #[.agg CS, .int .i64 0], .agg (cellsOf S), v, .agg (cellsOf T), u, v3, .tuple #[.agg CS, .int .i64 0], .agg CS, .int .i64 0, undef, undef, undef, undef, undef, undef, undef, undef, undef, undef, undef, undef, undef, undef, undef, undef, undef, undef, undef, undef, undef, undef], []⟩) (by kernel_rfl) (by kernel_rfl) (by kernel_rfl) ?_
          refine wpAny_ready (rs := [10]) (by kernel_rfl) (by simp) ?_
          refine AllReady.cons rfl (fun K hK => ?_) ?_
          rotate_left
          · exact AllReady.nil
          refine step_store rfl 25 _ _ rfl X2.heap.size CS rfl rfl 25 _ Z.out (by rw [← hCS]; exact infoBits _) (by rw [← hCS]; exact sizes _ _) (by rw [← hCS]; exact oneCells _) (hK _ _ ?_)
          clear hK K
          have CB : Hid (Box (X5.setRow X2.heap.size CS) X2.heap.size (Slot.ofList (l ++ k))) := by rw [← hCS]; exact box_size Z.out
          replace A : Hid (Box (X5.setRow X2.heap.size CS) w.heap.size S) := (setRow_other _ _ _ _ (by omega)).trans A.out
          replace B : Hid (Box (X5.setRow X2.heap.size CS) (w.heap.size + 1) T) := (setRow_other _ _ _ _ (by omega)).trans B.out
          replace D : Hid (Below w.heap.size w (X5.setRow X2.heap.size CS)) := below_setRow D.out (by omega) _
          clear Z hs
          generalize X5.setRow X2.heap.size CS = X6 at A B D CB ⊢
          refine wpAny_norm (n' := 1) (l' := #[true, true, true, true, true, true, true, true, true, true, true, false]) (a' := ⟨#[.agg (cellsOf S), .agg (cellsOf T), .pointer (some ⟨w.heap.size, 0, none⟩), .pointer (some ⟨w.heap.size + 1, 0, none⟩), .bool false, .pointer (some ⟨X2.heap.size, 0, none⟩), undef, undef, .tuple #[.agg CS, .int .i64 0], .agg (cellsOf S), v, .agg (cellsOf T), u, v3, .tuple #[.agg CS, .int .i64 0], .agg CS, .int .i64 0, undef, undef, undef, undef, undef, undef, undef, undef, undef, undef, undef, undef, undef, undef, undef, undef, undef, undef, undef, undef, undef, undef], []⟩) (by kernel_rfl) (by kernel_rfl) (by kernel_rfl) ?_
          refine wpAny_take (i := 11) (v := .int .i64 0) rfl (by kernel_rfl) (by kernel_rfl) (by kernel_rfl) (fun _ _ _ h => h) (Or.inl ⟨by rfl, fun _ => by go_simp⟩) ?_
          refine wpAny_norm (n' := 0) (l' := #[true, true, true, true, true, true, true, true, true, true, true, true]) (a' := ⟨#[.agg (cellsOf S), .agg (cellsOf T), .pointer (some ⟨w.heap.size, 0, none⟩), .pointer (some ⟨w.heap.size + 1, 0, none⟩), .bool false, .pointer (some ⟨X2.heap.size, 0, none⟩), .int .i64 0, undef, .tuple #[.agg CS, .int .i64 0], .agg (cellsOf S), v, .agg (cellsOf T), u, v3, .tuple #[.agg CS, .int .i64 0], .agg CS, .int .i64 0, undef, undef, undef, undef, undef, undef, undef, undef, undef, undef, undef, undef, undef, undef, undef, undef, undef, undef, undef, undef, undef, undef], []⟩) (by kernel_rfl) (by kernel_rfl) (by kernel_rfl) ?_
          refine wpAny_done (by kernel_rfl) ?_ _
          exact rest.out X2.heap.size X6 (Slot.ofList (l ++ k)) _ _ _ _ _ _ _ _ _ A.out B.out CB.out (fun n hn => by rw [ofList_append, RL.out.ofList n (Nat.zero_le _) hn, RK.out.ofList n (Nat.zero_le _) hn]) hb5 D.out
        refine AllReady.cons rfl (fun K hK => ?_) ?_
        rotate_left
        · exact AllReady.nil
        go_simp
        refine hK _ _ ?_
        clear hK K
        have hb := below_alloc X1 (.cells (cellsOf fun _ => false) 25)
        have ZN : Hid (∀ q, v.ownBlock = some q → q ≠ X1.heap.size) := fun q hq => by have := (World.ownsRow.lt OL.out q hq).2; omega
        replace A := hid (A.out.below hb A.out.lt)
        replace B := hid (B.out.below hb B.out.lt)
        replace D := hid (D.out.trans (hb.mono D.out.size))
        replace OL := hid (owns_below OL.out hb)
        have Z := hid (box_new X1 (fun _ => false))
        have hb5 : w.heap.size + 2 ≤ X1.heap.size := hs
        replace hs : w.heap.size + 2 ≤ (X1.alloc (.cells (cellsOf fun _ => false) 25)).heap.size := Nat.le_trans hs hb.size
        clear hb
        generalize X1.alloc (.cells (cellsOf fun _ => false) 25) = X2 at A B D Z hs OL ⊢
        refine wpAny_norm (n' := 8) (l' := #[true, true, true, false, false, false, false, false, false, true, false, false]) (a' := ⟨#[.agg (cellsOf S), .agg (cellsOf T), .pointer (some ⟨w.heap.size, 0, none⟩), .pointer (some ⟨w.heap.size + 1, 0, none⟩), .bool false, .pointer (some ⟨X1.heap.size, 0, none⟩), undef, undef, undef, .agg (cellsOf S), v, .agg (cellsOf T), undef, undef, undef, undef, undef, undef, undef, undef, undef, undef, undef, undef, undef, undef, undef, undef, undef, undef, undef, undef, undef, undef, undef, undef, undef, undef, undef], []⟩) (by kernel_rfl) (by kernel_rfl) (by kernel_rfl) ?_
        refine wpAny_ready (rs := [3]) (by kernel_rfl) (by simp) ?_
        refine AllReady.cons rfl (fun K hK => ?_) ?_
        rotate_left
        · exact AllReady.nil
        go_simp
        go_wp2_with (go_at_call 9; refine (HRb.out _).mono ?_; rintro e X3 ⟨⟨k, u, rfl, hruns, hown⟩, hb⟩)
        replace A := hid (A.out.below hb A.out.lt)
        replace B := hid (B.out.below hb B.out.lt)
        replace D := hid (D.out.trans (hb.mono D.out.size))
        replace Z := hid (Z.out.below hb Z.out.lt)
        replace OL := hid (owns_below OL.out hb)
        have RK := hid hruns
        have OK := hid (owns_mono (B' := w.heap.size + 2) hown (by omega))
        replace hs : w.heap.size + 2 ≤ X3.heap.size := Nat.le_trans hs hb.size
        clear hruns hown hb
        refine wpAny_norm (n' := 7) (l' := #[true, true, true, true, false, false, false, false, false, true, false, false]) (a' := ⟨#[.agg (cellsOf S), .agg (cellsOf T), .pointer (some ⟨w.heap.size, 0, none⟩), .pointer (some ⟨w.heap.size + 1, 0, none⟩), .bool false, .pointer (some ⟨X1.heap.size, 0, none⟩), undef, undef, undef, .agg (cellsOf S), v, .agg (cellsOf T), u, undef, undef, undef, undef, undef, undef, undef, undef, undef, undef, undef, undef, undef, undef, undef, undef, undef, undef, undef, undef, undef, undef, undef, undef, undef, undef], []⟩) (by kernel_rfl) (by kernel_rfl) (by kernel_rfl) ?_
        refine wpAny_ready (rs := [4]) (by kernel_rfl) (by simp) ?_
        refine AllReady.cons rfl (fun K hK => ?_) ?_
        rotate_left
        · exact AllReady.nil
        obtain ⟨v3, X4, hr3, ho3, hb3, hg3⟩ := join_run (w.heap.size + 2) _ X3 v u l k OL.out OK.out hs (by have := RL.out.length (by unfold top; omega); have := RK.out.length (by unfold top; omega); unfold top at *; omega)
        refine step_append_run rfl _ _ 31 rfl _ _ _ _ rfl rfl hr3 (hK _ _ ?_)
        clear hK K
        replace A := hid (A.out.below hb3 (by omega))
        replace B := hid (B.out.below hb3 (by omega))
        replace D := hid (D.out.trans (hb3.mono (by omega)))
        replace Z := hid (box_grown Z.out hg3 ZN.out)
        have OJ := hid ho3
        replace hs : w.heap.size + 2 ≤ X4.heap.size := Nat.le_trans hs hb3.size
        clear hr3 ho3 hb3 hg3 OL OK
        refine wpAny_norm (n' := 6) (l' := #[true, true, true, true, true, false, false, false, false, true, false, false]) (a' := ⟨#[.agg (cellsOf S), .agg (cellsOf T), .pointer (some ⟨w.heap.size, 0, none⟩), .pointer (some ⟨w.heap.size + 1, 0, none⟩), .bool false, .pointer (some ⟨X1.heap.size, 0, none⟩), undef, undef, undef, .agg (cellsOf S), v, .agg (cellsOf T), u, v3, undef, undef, undef, undef, undef, undef, undef, undef, undef, undef, undef, undef, undef, undef, undef, undef, undef, undef, undef, undef, undef, undef, undef, undef, undef], []⟩) (by kernel_rfl) (by kernel_rfl) (by kernel_rfl) ?_
        refine wpAny_ready (rs := [5]) (by kernel_rfl) (by simp) ?_
        refine AllReady.cons rfl (fun K hK => ?_) ?_
        rotate_left
        · exact AllReady.nil
        go_simp
        go_wp2_with (go_at_call 8; refine (make_own OJ.out (by rw [List.length_append]; have := RL.out.length (by unfold top; omega); have := RK.out.length (by unfold top; omega); unfold top at *; omega) (fun p hp => by rcases List.mem_append.1 hp with h | h; exact RL.out.valid p h; exact RK.out.valid p h)).mono ?_; rintro e X5 ⟨rfl, hb⟩)
        clear OJ
        replace A := hid (A.out.below hb A.out.lt)
        replace B := hid (B.out.below hb B.out.lt)
        replace D := hid (D.out.trans (hb.mono D.out.size))
        replace Z := hid (Z.out.below hb Z.out.lt)
        replace hs : w.heap.size + 2 ≤ X5.heap.size := Nat.le_trans hs hb.size
        clear hb
        generalize hCS : cellsOf (Slot.ofList (l ++ k)) = CS
        refine wpAny_norm (n' := 5) (l' := #[true, true, true, true, true, true, false, false, false, true, false, false]) (a' := ⟨#[.agg (cellsOf S), .agg (cellsOf T), .pointer (some ⟨w.heap.size, 0, none⟩), .pointer (some ⟨w.heap.size + 1, 0, none⟩), .bool false, .pointer (some ⟨X1.heap.size, 0, none⟩), undef, undef, undef, .agg (cellsOf S), v, .agg (cellsOf T), u, v3, .tuple #[.agg CS, .int .i64 0], undef, undef, undef, undef, undef, undef, undef, undef, undef, undef, undef, undef, undef, undef, undef, undef, undef, undef, undef, undef, undef, undef, undef, undef], []⟩) (by kernel_rfl) (by kernel_rfl) (by kernel_rfl) ?_
        refine wpAny_take (i := 6) (v := .tuple #[.agg CS, .int .i64 0]) rfl (by kernel_rfl) (by kernel_rfl) (by kernel_rfl) (fun _ _ _ h => h) (Or.inl ⟨by rfl, fun _ => by go_simp⟩) ?_
        refine wpAny_norm (n' := 4) (l' := #[true, true, true, true, true, true, true, false, false, true, false, false]) (a' := ⟨#[.agg (cellsOf S), .agg (cellsOf T), .pointer (some ⟨w.heap.size, 0, none⟩), .pointer (some ⟨w.heap.size + 1, 0, none⟩), .bool false, .pointer (some ⟨X1.heap.size, 0, none⟩), undef, undef, .tuple #[.agg CS, .int .i64 0], .agg (cellsOf S), v, .agg (cellsOf T), u, v3, .tuple #[.agg CS, .int .i64 0], undef, undef, undef, undef, undef, undef, undef, undef, undef, undef, undef, undef, undef, undef, undef, undef, undef, undef, undef, undef, undef, undef, undef, undef], []⟩) (by kernel_rfl) (by kernel_rfl) (by kernel_rfl) ?_
        refine wpAny_take (i := 7) (v := .agg CS) rfl (by kernel_rfl) (by kernel_rfl) (by kernel_rfl) (fun _ _ _ h => h) (Or.inl ⟨by rfl, fun _ => by go_simp⟩) ?_
        refine wpAny_norm (n' := 3) (l' := #[true, true, true, true, true, true, true, true, false, true, false, false]) (a' := ⟨#[.agg (cellsOf S), .agg (cellsOf T), .pointer (some ⟨w.heap.size, 0, none⟩), .pointer (some ⟨w.heap.size + 1, 0, none⟩), .bool false, .pointer (some ⟨X1.heap.size, 0, none⟩), undef, undef, .tuple #[.agg CS, .int .i64 0], .agg (cellsOf S), v, .agg (cellsOf T), u, v3, .tuple #[.agg CS, .int .i64 0], .agg CS, undef, undef, undef, undef, undef, undef, undef, undef, undef, undef, undef, undef, undef, undef, undef, undef, undef, undef, undef, undef, undef, undef, undef], []⟩) (by kernel_rfl) (by kernel_rfl) (by kernel_rfl) ?_
        refine wpAny_take (i := 8) (v := .int .i64 0) rfl (by kernel_rfl) (by kernel_rfl) (by kernel_rfl) (fun _ _ _ h => h) (Or.inl ⟨by rfl, fun _ => by go_simp⟩) ?_
        refine wpAny_norm (n' := 2) (l' := #[true, true, true, true, true, true, true, true, true, true, false, false]) (a' := ⟨#[.agg (cellsOf S), .agg (cellsOf T), .pointer (some ⟨w.heap.size, 0, none⟩), .pointer (some ⟨w.heap.size + 1, 0, none⟩), .bool false, .pointer (some ⟨X1.heap.size, 0, none⟩), undef, undef, .tuple #[.agg CS, .int .i64 0], .agg (cellsOf S), v, .agg (cellsOf T), u, v3, .tuple #[.agg CS, .int .i64 0], .agg CS, .int .i64 0, undef, undef, undef, undef, undef, undef, undef, undef, undef, undef, undef, undef, undef, undef, undef, undef, undef, undef, undef, undef, undef, undef], []⟩) (by kernel_rfl) (by kernel_rfl) (by kernel_rfl) ?_
        refine wpAny_ready (rs := [10]) (by kernel_rfl) (by simp) ?_
        refine AllReady.cons rfl (fun K hK => ?_) ?_
        rotate_left
        · exact AllReady.nil
        refine step_store rfl 25 _ _ rfl X1.heap.size CS rfl rfl 25 _ Z.out (by rw [← hCS]; exact infoBits _) (by rw [← hCS]; exact sizes _ _) (by rw [← hCS]; exact oneCells _) (hK _ _ ?_)
        clear hK K
        have CB : Hid (Box (X5.setRow X1.heap.size CS) X1.heap.size (Slot.ofList (l ++ k))) := by rw [← hCS]; exact box_size Z.out
        replace A : Hid (Box (X5.setRow X1.heap.size CS) w.heap.size S) := (setRow_other _ _ _ _ (by omega)).trans A.out
        replace B : Hid (Box (X5.setRow X1.heap.size CS) (w.heap.size + 1) T) := (setRow_other _ _ _ _ (by omega)).trans B.out
        replace D : Hid (Below w.heap.size w (X5.setRow X1.heap.size CS)) := below_setRow D.out (by omega) _
        clear Z hs
        generalize X5.setRow X1.heap.size CS = X6 at A B D CB ⊢
        refine wpAny_norm (n' := 1) (l' := #[true, true, true, true, true, true, true, true, true, true, true, false]) (a' := ⟨#[.agg (cellsOf S), .agg (cellsOf T), .pointer (some ⟨w.heap.size, 0, none⟩), .pointer (some ⟨w.heap.size + 1, 0, none⟩), .bool false, .pointer (some ⟨X1.heap.size, 0, none⟩), undef, undef, .tuple #[.agg CS, .int .i64 0], .agg (cellsOf S), v, .agg (cellsOf T), u, v3, .tuple #[.agg CS, .int .i64 0], .agg CS, .int .i64 0, undef, undef, undef, undef, undef, undef, undef, undef, undef, undef, undef, undef, undef, undef, undef, undef, undef, undef, undef, undef, undef, undef], []⟩) (by kernel_rfl) (by kernel_rfl) (by kernel_rfl) ?_
        refine wpAny_take (i := 11) (v := .int .i64 0) rfl (by kernel_rfl) (by kernel_rfl) (by kernel_rfl) (fun _ _ _ h => h) (Or.inl ⟨by rfl, fun _ => by go_simp⟩) ?_
        refine wpAny_norm (n' := 0) (l' := #[true, true, true, true, true, true, true, true, true, true, true, true]) (a' := ⟨#[.agg (cellsOf S), .agg (cellsOf T), .pointer (some ⟨w.heap.size, 0, none⟩), .pointer (some ⟨w.heap.size + 1, 0, none⟩), .bool false, .pointer (some ⟨X1.heap.size, 0, none⟩), .int .i64 0, undef, .tuple #[.agg CS, .int .i64 0], .agg (cellsOf S), v, .agg (cellsOf T), u, v3, .tuple #[.agg CS, .int .i64 0], .agg CS, .int .i64 0, undef, undef, undef, undef, undef, undef, undef, undef, undef, undef, undef, undef, undef, undef, undef, undef, undef, undef, undef, undef, undef, undef], []⟩) (by kernel_rfl) (by kernel_rfl) (by kernel_rfl) ?_
        refine wpAny_done (by kernel_rfl) ?_ _
        exact rest.out X1.heap.size X6 (Slot.ofList (l ++ k)) _ _ _ _ _ _ _ _ _ A.out B.out CB.out (fun n hn => by rw [ofList_append, RL.out.ofList n (Nat.zero_le _) hn, RK.out.ofList n (Nat.zero_le _) hn]) hb5 D.out
      refine AllReady.cons rfl (fun K hK => ?_) ?_
      rotate_left
      · exact AllReady.nil
      go_simp
      refine hK _ _ ?_
      clear hK K
      have hb := below_alloc X0 (.cells (cellsOf fun _ => false) 25)
      replace A := hid (A.out.below hb A.out.lt)
      replace B := hid (B.out.below hb B.out.lt)
      replace D := hid (D.out.trans (hb.mono D.out.size))
      have Z := hid (box_new X0 (fun _ => false))
      have hb5 : w.heap.size + 2 ≤ X0.heap.size := hs
      replace hs : w.heap.size + 2 ≤ (X0.alloc (.cells (cellsOf fun _ => false) 25)).heap.size := Nat.le_trans hs hb.size
      clear hb
      generalize X0.alloc (.cells (cellsOf fun _ => false) 25) = X1 at A B D Z hs ⊢
      refine wpAny_norm (n' := 9) (l' := #[true, false, true, false, false, false, false, false, false, true, false, false]) (a' := ⟨#[.agg (cellsOf S), .agg (cellsOf T), .pointer (some ⟨w.heap.size, 0, none⟩), .pointer (some ⟨w.heap.size + 1, 0, none⟩), .bool false, .pointer (some ⟨X0.heap.size, 0, none⟩), undef, undef, undef, .agg (cellsOf S), undef, .agg (cellsOf T), undef, undef, undef, undef, undef, undef, undef, undef, undef, undef, undef, undef, undef, undef, undef, undef, undef, undef, undef, undef, undef, undef, undef, undef, undef, undef, undef], []⟩) (by kernel_rfl) (by kernel_rfl) (by kernel_rfl) ?_
      refine wpAny_ready (rs := [1]) (by kernel_rfl) (by simp) ?_
      refine AllReady.cons rfl (fun K hK => ?_) ?_
      rotate_left
      · exact AllReady.nil
      go_simp
      go_wp2_with (go_at_call 9; refine (HRa.out _).mono ?_; rintro e X2 ⟨⟨l, v, rfl, hruns, hown⟩, hb⟩)
      have ZN : Hid (∀ q, v.ownBlock = some q → q ≠ X0.heap.size) := fun q hq => by have := (World.ownsRow.lt hown q hq).1; have := Z.out.lt; omega
      replace A := hid (A.out.below hb A.out.lt)
      replace B := hid (B.out.below hb B.out.lt)
      replace D := hid (D.out.trans (hb.mono D.out.size))
      replace Z := hid (Z.out.below hb Z.out.lt)
      have RL := hid hruns
      have OL := hid (owns_mono (B' := w.heap.size + 2) hown (by omega))
      replace hs : w.heap.size + 2 ≤ X2.heap.size := Nat.le_trans hs hb.size
      clear hruns hown hb
      refine wpAny_norm (n' := 8) (l' := #[true, true, true, false, false, false, false, false, false, true, false, false]) (a' := ⟨#[.agg (cellsOf S), .agg (cellsOf T), .pointer (some ⟨w.heap.size, 0, none⟩), .pointer (some ⟨w.heap.size + 1, 0, none⟩), .bool false, .pointer (some ⟨X0.heap.size, 0, none⟩), undef, undef, undef, .agg (cellsOf S), v, .agg (cellsOf T), undef, undef, undef, undef, undef, undef, undef, undef, undef, undef, undef, undef, undef, undef, undef, undef, undef, undef, undef, undef, undef, undef, undef, undef, undef, undef, undef], []⟩) (by kernel_rfl) (by kernel_rfl) (by kernel_rfl) ?_
      refine wpAny_ready (rs := [3]) (by kernel_rfl) (by simp) ?_
      refine AllReady.cons rfl (fun K hK => ?_) ?_
      rotate_left
      · exact AllReady.nil
      go_simp
      go_wp2_with (go_at_call 9; refine (HRb.out _).mono ?_; rintro e X3 ⟨⟨k, u, rfl, hruns, hown⟩, hb⟩)
      replace A := hid (A.out.below hb A.out.lt)
      replace B := hid (B.out.below hb B.out.lt)
      replace D := hid (D.out.trans (hb.mono D.out.size))
      replace Z := hid (Z.out.below hb Z.out.lt)
      replace OL := hid (owns_below OL.out hb)
      have RK := hid hruns
      have OK := hid (owns_mono (B' := w.heap.size + 2) hown (by omega))
      replace hs : w.heap.size + 2 ≤ X3.heap.size := Nat.le_trans hs hb.size
      clear hruns hown hb
      refine wpAny_norm (n' := 7) (l' := #[true, true, true, true, false, false, false, false, false, true, false, false]) (a' := ⟨#[.agg (cellsOf S), .agg (cellsOf T), .pointer (some ⟨w.heap.size, 0, none⟩), .pointer (some ⟨w.heap.size + 1, 0, none⟩), .bool false, .pointer (some ⟨X0.heap.size, 0, none⟩), undef, undef, undef, .agg (cellsOf S), v, .agg (cellsOf T), u, undef, undef, undef, undef, undef, undef, undef, undef, undef, undef, undef, undef, undef, undef, undef, undef, undef, undef, undef, undef, undef, undef, undef, undef, undef, undef], []⟩) (by kernel_rfl) (by kernel_rfl) (by kernel_rfl) ?_
      refine wpAny_ready (rs := [4]) (by kernel_rfl) (by simp) ?_
      refine AllReady.cons rfl (fun K hK => ?_) ?_
      rotate_left
      · exact AllReady.nil
      obtain ⟨v3, X4, hr3, ho3, hb3, hg3⟩ := join_run (w.heap.size + 2) _ X3 v u l k OL.out OK.out hs (by have := RL.out.length (by unfold top; omega); have := RK.out.length (by unfold top; omega); unfold top at *; omega)
      refine step_append_run rfl _ _ 31 rfl _ _ _ _ rfl rfl hr3 (hK _ _ ?_)
      clear hK K
      replace A := hid (A.out.below hb3 (by omega))
      replace B := hid (B.out.below hb3 (by omega))
      replace D := hid (D.out.trans (hb3.mono (by omega)))
      replace Z := hid (box_grown Z.out hg3 ZN.out)
      have OJ := hid ho3
      replace hs : w.heap.size + 2 ≤ X4.heap.size := Nat.le_trans hs hb3.size
      clear hr3 ho3 hb3 hg3 OL OK
      refine wpAny_norm (n' := 6) (l' := #[true, true, true, true, true, false, false, false, false, true, false, false]) (a' := ⟨#[.agg (cellsOf S), .agg (cellsOf T), .pointer (some ⟨w.heap.size, 0, none⟩), .pointer (some ⟨w.heap.size + 1, 0, none⟩), .bool false, .pointer (some ⟨X0.heap.size, 0, none⟩), undef, undef, undef, .agg (cellsOf S), v, .agg (cellsOf T), u, v3, undef, undef, undef, undef, undef, undef, undef, undef, undef, undef, undef, undef, undef, undef, undef, undef, undef, undef, undef, undef, undef, undef, undef, undef, undef], []⟩) (by kernel_rfl) (by kernel_rfl) (by kernel_rfl) ?_
      refine wpAny_ready (rs := [5]) (by kernel_rfl) (by simp) ?_
      refine AllReady.cons rfl (fun K hK => ?_) ?_
      rotate_left
      · exact AllReady.nil
      go_simp
      go_wp2_with (go_at_call 8; refine (make_own OJ.out (by rw [List.length_append]; have := RL.out.length (by unfold top; omega); have := RK.out.length (by unfold top; omega); unfold top at *; omega) (fun p hp => by rcases List.mem_append.1 hp with h | h; exact RL.out.valid p h; exact RK.out.valid p h)).mono ?_; rintro e X5 ⟨rfl, hb⟩)
      clear OJ
      replace A := hid (A.out.below hb A.out.lt)
      replace B := hid (B.out.below hb B.out.lt)
      replace D := hid (D.out.trans (hb.mono D.out.size))
      replace Z := hid (Z.out.below hb Z.out.lt)
      replace hs : w.heap.size + 2 ≤ X5.heap.size := Nat.le_trans hs hb.size
      clear hb
      generalize hCS : cellsOf (Slot.ofList (l ++ k)) = CS
      refine wpAny_norm (n' := 5) (l' := #[true, true, true, true, true, true, false, false, false, true, false, false]) (a' := ⟨#[.agg (cellsOf S), .agg (cellsOf T), .pointer (some ⟨w.heap.size, 0, none⟩), .pointer (some ⟨w.heap.size + 1, 0, none⟩), .bool false, .pointer (some ⟨X0.heap.size, 0, none⟩), undef, undef, undef, .agg (cellsOf S), v, .agg (cellsOf T), u, v3, .tuple #[.agg CS, .int .i64 0], undef, undef, undef, undef, undef, undef, undef, undef, undef, undef, undef, undef, undef, undef, undef, undef, undef, undef, undef, undef, undef, undef, undef, undef], []⟩) (by kernel_rfl) (by kernel_rfl) (by kernel_rfl) ?_
      refine wpAny_take (i := 6) (v := .tuple #[.agg CS, .int .i64 0]) rfl (by kernel_rfl) (by kernel_rfl) (by kernel_rfl) (fun _ _ _ h => h) (Or.inl ⟨by rfl, fun _ => by go_simp⟩) ?_
      refine wpAny_norm (n' := 4) (l' := #[true, true, true, true, true, true, true, false, false, true, false, false]) (a' := ⟨#[.agg (cellsOf S), .agg (cellsOf T), .pointer (some ⟨w.heap.size, 0, none⟩), .pointer (some ⟨w.heap.size + 1, 0, none⟩), .bool false, .pointer (some ⟨X0.heap.size, 0, none⟩), undef, undef, .tuple #[.agg CS, .int .i64 0], .agg (cellsOf S), v, .agg (cellsOf T), u, v3, .tuple #[.agg CS, .int .i64 0], undef, undef, undef, undef, undef, undef, undef, undef, undef, undef, undef, undef, undef, undef, undef, undef, undef, undef, undef, undef, undef, undef, undef, undef], []⟩) (by kernel_rfl) (by kernel_rfl) (by kernel_rfl) ?_
      refine wpAny_take (i := 7) (v := .agg CS) rfl (by kernel_rfl) (by kernel_rfl) (by kernel_rfl) (fun _ _ _ h => h) (Or.inl ⟨by rfl, fun _ => by go_simp⟩) ?_
      refine wpAny_norm (n' := 3) (l' := #[true, true, true, true, true, true, true, true, false, true, false, false]) (a' := ⟨#[.agg (cellsOf S), .agg (cellsOf T), .pointer (some ⟨w.heap.size, 0, none⟩), .pointer (some ⟨w.heap.size + 1, 0, none⟩), .bool false, .pointer (some ⟨X0.heap.size, 0, none⟩), undef, undef, .tuple #[.agg CS, .int .i64 0], .agg (cellsOf S), v, .agg (cellsOf T), u, v3, .tuple #[.agg CS, .int .i64 0], .agg CS, undef, undef, undef, undef, undef, undef, undef, undef, undef, undef, undef, undef, undef, undef, undef, undef, undef, undef, undef, undef, undef, undef, undef], []⟩) (by kernel_rfl) (by kernel_rfl) (by kernel_rfl) ?_
      refine wpAny_take (i := 8) (v := .int .i64 0) rfl (by kernel_rfl) (by kernel_rfl) (by kernel_rfl) (fun _ _ _ h => h) (Or.inl ⟨by rfl, fun _ => by go_simp⟩) ?_
      refine wpAny_norm (n' := 2) (l' := #[true, true, true, true, true, true, true, true, true, true, false, false]) (a' := ⟨#[.agg (cellsOf S), .agg (cellsOf T), .pointer (some ⟨w.heap.size, 0, none⟩), .pointer (some ⟨w.heap.size + 1, 0, none⟩), .bool false, .pointer (some ⟨X0.heap.size, 0, none⟩), undef, undef, .tuple #[.agg CS, .int .i64 0], .agg (cellsOf S), v, .agg (cellsOf T), u, v3, .tuple #[.agg CS, .int .i64 0], .agg CS, .int .i64 0, undef, undef, undef, undef, undef, undef, undef, undef, undef, undef, undef, undef, undef, undef, undef, undef, undef, undef, undef, undef, undef, undef], []⟩) (by kernel_rfl) (by kernel_rfl) (by kernel_rfl) ?_
      refine wpAny_ready (rs := [10]) (by kernel_rfl) (by simp) ?_
      refine AllReady.cons rfl (fun K hK => ?_) ?_
      rotate_left
      · exact AllReady.nil
      refine step_store rfl 25 _ _ rfl X0.heap.size CS rfl rfl 25 _ Z.out (by rw [← hCS]; exact infoBits _) (by rw [← hCS]; exact sizes _ _) (by rw [← hCS]; exact oneCells _) (hK _ _ ?_)
      clear hK K
      have CB : Hid (Box (X5.setRow X0.heap.size CS) X0.heap.size (Slot.ofList (l ++ k))) := by rw [← hCS]; exact box_size Z.out
      replace A : Hid (Box (X5.setRow X0.heap.size CS) w.heap.size S) := (setRow_other _ _ _ _ (by omega)).trans A.out
      replace B : Hid (Box (X5.setRow X0.heap.size CS) (w.heap.size + 1) T) := (setRow_other _ _ _ _ (by omega)).trans B.out
      replace D : Hid (Below w.heap.size w (X5.setRow X0.heap.size CS)) := below_setRow D.out (by omega) _
      clear Z hs
      generalize X5.setRow X0.heap.size CS = X6 at A B D CB ⊢
      refine wpAny_norm (n' := 1) (l' := #[true, true, true, true, true, true, true, true, true, true, true, false]) (a' := ⟨#[.agg (cellsOf S), .agg (cellsOf T), .pointer (some ⟨w.heap.size, 0, none⟩), .pointer (some ⟨w.heap.size + 1, 0, none⟩), .bool false, .pointer (some ⟨X0.heap.size, 0, none⟩), undef, undef, .tuple #[.agg CS, .int .i64 0], .agg (cellsOf S), v, .agg (cellsOf T), u, v3, .tuple #[.agg CS, .int .i64 0], .agg CS, .int .i64 0, undef, undef, undef, undef, undef, undef, undef, undef, undef, undef, undef, undef, undef, undef, undef, undef, undef, undef, undef, undef, undef, undef], []⟩) (by kernel_rfl) (by kernel_rfl) (by kernel_rfl) ?_
      refine wpAny_take (i := 11) (v := .int .i64 0) rfl (by kernel_rfl) (by kernel_rfl) (by kernel_rfl) (fun _ _ _ h => h) (Or.inl ⟨by rfl, fun _ => by go_simp⟩) ?_
      refine wpAny_norm (n' := 0) (l' := #[true, true, true, true, true, true, true, true, true, true, true, true]) (a' := ⟨#[.agg (cellsOf S), .agg (cellsOf T), .pointer (some ⟨w.heap.size, 0, none⟩), .pointer (some ⟨w.heap.size + 1, 0, none⟩), .bool false, .pointer (some ⟨X0.heap.size, 0, none⟩), .int .i64 0, undef, .tuple #[.agg CS, .int .i64 0], .agg (cellsOf S), v, .agg (cellsOf T), u, v3, .tuple #[.agg CS, .int .i64 0], .agg CS, .int .i64 0, undef, undef, undef, undef, undef, undef, undef, undef, undef, undef, undef, undef, undef, undef, undef, undef, undef, undef, undef, undef, undef, undef], []⟩) (by kernel_rfl) (by kernel_rfl) (by kernel_rfl) ?_
      refine wpAny_done (by kernel_rfl) ?_ _
      exact rest.out X0.heap.size X6 (Slot.ofList (l ++ k)) _ _ _ _ _ _ _ _ _ A.out B.out CB.out (fun n hn => by rw [ofList_append, RL.out.ofList n (Nat.zero_le _) hn, RK.out.ofList n (Nat.zero_le _) hn]) hb5 D.out
    refine AllReady.cons rfl (fun K hK => ?_) ?_
    rotate_left
    · exact AllReady.nil
    go_simp
    refine hK _ _ ?_
    clear hK K
    have hb := below_alloc X0 (.cells (cellsOf fun _ => false) 25)
    replace A := hid (A.out.below hb A.out.lt)
    replace B := hid (B.out.below hb B.out.lt)
    replace D := hid (D.out.trans (hb.mono D.out.size))
    have Z := hid (box_new X0 (fun _ => false))
    have hb5 : w.heap.size + 2 ≤ X0.heap.size := hs
    replace hs : w.heap.size + 2 ≤ (X0.alloc (.cells (cellsOf fun _ => false) 25)).heap.size := Nat.le_trans hs hb.size
    clear hb
    generalize X0.alloc (.cells (cellsOf fun _ => false) 25) = X1 at A B D Z hs ⊢
    refine wpAny_norm (n' := 10) (l' := #[false, false, true, false, false, false, false, false, false, true, false, false]) (a' := ⟨#[.agg (cellsOf S), .agg (cellsOf T), .pointer (some ⟨w.heap.size, 0, none⟩), .pointer (some ⟨w.heap.size + 1, 0, none⟩), .bool false, .pointer (some ⟨X0.heap.size, 0, none⟩), undef, undef, undef, undef, undef, .agg (cellsOf T), undef, undef, undef, undef, undef, undef, undef, undef, undef, undef, undef, undef, undef, undef, undef, undef, undef, undef, undef, undef, undef, undef, undef, undef, undef, undef, undef], []⟩) (by kernel_rfl) (by kernel_rfl) (by kernel_rfl) ?_
    refine wpAny_ready (rs := [0]) (by kernel_rfl) (by simp) ?_
    refine AllReady.cons rfl (fun K hK => ?_) ?_
    rotate_left
    · exact AllReady.nil
    refine step_load rfl 25 _ rfl w.heap.size rfl 25 _ (0, 0) _ A.out Tryd.underlying25 rfl (infoBits _) (hK _ _ ?_)
    clear hK K
    refine wpAny_norm (n' := 9) (l' := #[true, false, true, false, false, false, false, false, false, true, false, false]) (a' := ⟨#[.agg (cellsOf S), .agg (cellsOf T), .pointer (some ⟨w.heap.size, 0, none⟩), .pointer (some ⟨w.heap.size + 1, 0, none⟩), .bool false, .pointer (some ⟨X0.heap.size, 0, none⟩), undef, undef, undef, .agg (cellsOf S), undef, .agg (cellsOf T), undef, undef, undef, undef, undef, undef, undef, undef, undef, undef, undef, undef, undef, undef, undef, undef, undef, undef, undef, undef, undef, undef, undef, undef, undef, undef, undef], []⟩) (by kernel_rfl) (by kernel_rfl) (by kernel_rfl) ?_
    refine wpAny_ready (rs := [1]) (by kernel_rfl) (by simp) ?_
    refine AllReady.cons rfl (fun K hK => ?_) ?_
    rotate_left
    · exact AllReady.nil
    go_simp
    go_wp2_with (go_at_call 9; refine (HRa.out _).mono ?_; rintro e X2 ⟨⟨l, v, rfl, hruns, hown⟩, hb⟩)
    have ZN : Hid (∀ q, v.ownBlock = some q → q ≠ X0.heap.size) := fun q hq => by have := (World.ownsRow.lt hown q hq).1; have := Z.out.lt; omega
    replace A := hid (A.out.below hb A.out.lt)
    replace B := hid (B.out.below hb B.out.lt)
    replace D := hid (D.out.trans (hb.mono D.out.size))
    replace Z := hid (Z.out.below hb Z.out.lt)
    have RL := hid hruns
    have OL := hid (owns_mono (B' := w.heap.size + 2) hown (by omega))
    replace hs : w.heap.size + 2 ≤ X2.heap.size := Nat.le_trans hs hb.size
    clear hruns hown hb
    refine wpAny_norm (n' := 8) (l' := #[true, true, true, false, false, false, false, false, false, true, false, false]) (a' := ⟨#[.agg (cellsOf S), .agg (cellsOf T), .pointer (some ⟨w.heap.size, 0, none⟩), .pointer (some ⟨w.heap.size + 1, 0, none⟩), .bool false, .pointer (some ⟨X0.heap.size, 0, none⟩), undef, undef, undef, .agg (cellsOf S), v, .agg (cellsOf T), undef, undef, undef, undef, undef, undef, undef, undef, undef, undef, undef, undef, undef, undef, undef, undef, undef, undef, undef, undef, undef, undef, undef, undef, undef, undef, undef], []⟩) (by kernel_rfl) (by kernel_rfl) (by kernel_rfl) ?_
    refine wpAny_ready (rs := [3]) (by kernel_rfl) (by simp) ?_
    refine AllReady.cons rfl (fun K hK => ?_) ?_
    rotate_left
    · exact AllReady.nil
    go_simp
    go_wp2_with (go_at_call 9; refine (HRb.out _).mono ?_; rintro e X3 ⟨⟨k, u, rfl, hruns, hown⟩, hb⟩)
    replace A := hid (A.out.below hb A.out.lt)
    replace B := hid (B.out.below hb B.out.lt)
    replace D := hid (D.out.trans (hb.mono D.out.size))
    replace Z := hid (Z.out.below hb Z.out.lt)
    replace OL := hid (owns_below OL.out hb)
    have RK := hid hruns
    have OK := hid (owns_mono (B' := w.heap.size + 2) hown (by omega))
    replace hs : w.heap.size + 2 ≤ X3.heap.size := Nat.le_trans hs hb.size
    clear hruns hown hb
    refine wpAny_norm (n' := 7) (l' := #[true, true, true, true, false, false, false, false, false, true, false, false]) (a' := ⟨#[.agg (cellsOf S), .agg (cellsOf T), .pointer (some ⟨w.heap.size, 0, none⟩), .pointer (some ⟨w.heap.size + 1, 0, none⟩), .bool false, .pointer (some ⟨X0.heap.size, 0, none⟩), undef, undef, undef, .agg (cellsOf S), v, .agg (cellsOf T), u, undef, undef, undef, undef, undef, undef, undef, undef, undef, undef, undef, undef, undef, undef, undef, undef, undef, undef, undef, undef, undef, undef, undef, undef, undef, undef], []⟩) (by kernel_rfl) (by kernel_rfl) (by kernel_rfl) ?_
    refine wpAny_ready (rs := [4]) (by kernel_rfl) (by simp) ?_
    refine AllReady.cons rfl (fun K hK => ?_) ?_
    rotate_left
    · exact AllReady.nil
    obtain ⟨v3, X4, hr3, ho3, hb3, hg3⟩ := join_run (w.heap.size + 2) _ X3 v u l k OL.out OK.out hs (by have := RL.out.length (by unfold top; omega); have := RK.out.length (by unfold top; omega); unfold top at *; omega)
    refine step_append_run rfl _ _ 31 rfl _ _ _ _ rfl rfl hr3 (hK _ _ ?_)
    clear hK K
    replace A := hid (A.out.below hb3 (by omega))
    replace B := hid (B.out.below hb3 (by omega))
    replace D := hid (D.out.trans (hb3.mono (by omega)))
    replace Z := hid (box_grown Z.out hg3 ZN.out)
    have OJ := hid ho3
    replace hs : w.heap.size + 2 ≤ X4.heap.size := Nat.le_trans hs hb3.size
    clear hr3 ho3 hb3 hg3 OL OK
    refine wpAny_norm (n' := 6) (l' := #[true, true, true, true, true, false, false, false, false, true, false, false]) (a' := ⟨#[.agg (cellsOf S), .agg (cellsOf T), .pointer (some ⟨w.heap.size, 0, none⟩), .pointer (some ⟨w.heap.size + 1, 0, none⟩), .bool false, .pointer (some ⟨X0.heap.size, 0, none⟩), undef, undef, undef, .agg (cellsOf S), v, .agg (cellsOf T), u, v3, undef, undef, undef, undef, undef, undef, undef, undef, undef, undef, undef, undef, undef, undef, undef, undef, undef, undef, undef, undef, undef, undef, undef, undef, undef], []⟩) (by kernel_rfl) (by kernel_rfl) (by kernel_rfl) ?_
    refine wpAny_ready (rs := [5]) (by kernel_rfl) (by simp) ?_
    refine AllReady.cons rfl (fun K hK => ?_) ?_
    rotate_left
    · exact AllReady.nil
    go_simp
    go_wp2_with (go_at_call 8; refine (make_own OJ.out (by rw [List.length_append]; have := RL.out.length (by unfold top; omega); have := RK.out.length (by unfold top; omega); unfold top at *; omega) (fun p hp => by rcases List.mem_append.1 hp with h | h; exact RL.out.valid p h; exact RK.out.valid p h)).mono ?_; rintro e X5 ⟨rfl, hb⟩)
    clear OJ
    replace A := hid (A.out.below hb A.out.lt)
    replace B := hid (B.out.below hb B.out.lt)
    replace D := hid (D.out.trans (hb.mono D.out.size))
    replace Z := hid (Z.out.below hb Z.out.lt)
    replace hs : w.heap.size + 2 ≤ X5.heap.size := Nat.le_trans hs hb.size
    clear hb
    generalize hCS : cellsOf (Slot.ofList (l ++ k)) = CS
    refine wpAny_norm (n' := 5) (l' := #[true, true, true, true, true, true, false, false, false, true, false, false]) (a' := ⟨#[.agg (cellsOf S), .agg (cellsOf T), .pointer (some ⟨w.heap.size, 0, none⟩), .pointer (some ⟨w.heap.size + 1, 0, none⟩), .bool false, .pointer (some ⟨X0.heap.size, 0, none⟩), undef, undef, undef, .agg (cellsOf S), v, .agg (cellsOf T), u, v3, .tuple #[.agg CS, .int .i64 0], undef, undef, undef, undef, undef, undef, undef, undef, undef, undef, undef, undef, undef, undef, undef, undef, undef, undef, undef, undef, undef, undef, undef, undef], []⟩) (by kernel_rfl) (by kernel_rfl) (by kernel_rfl) ?_
    refine wpAny_take (i := 6) (v := .tuple #[.agg CS, .int .i64 0]) rfl (by kernel_rfl) (by kernel_rfl) (by kernel_rfl) (fun _ _ _ h => h) (Or.inl ⟨by rfl, fun _ => by go_simp⟩) ?_
    refine wpAny_norm (n' := 4) (l' := #[true, true, true, true, true, true, true, false, false, true, false, false]) (a' := ⟨#[.agg (cellsOf S), .agg (cellsOf T), .pointer (some ⟨w.heap.size, 0, none⟩), .pointer (some ⟨w.heap.size + 1, 0, none⟩), .bool false, .pointer (some ⟨X0.heap.size, 0, none⟩), undef, undef, .tuple #[.agg CS, .int .i64 0], .agg (cellsOf S), v, .agg (cellsOf T), u, v3, .tuple #[.agg CS, .int .i64 0], undef, undef, undef, undef, undef, undef, undef, undef, undef, undef, undef, undef, undef, undef, undef, undef, undef, undef, undef, undef, undef, undef, undef, undef], []⟩) (by kernel_rfl) (by kernel_rfl) (by kernel_rfl) ?_
    refine wpAny_take (i := 7) (v := .agg CS) rfl (by kernel_rfl) (by kernel_rfl) (by kernel_rfl) (fun _ _ _ h => h) (Or.inl ⟨by rfl, fun _ => by go_simp⟩) ?_
    refine wpAny_norm (n' := 3) (l' := #[true, true, true, true, true, true, true, true, false, true, false, false]) (a' := ⟨#[.agg (cellsOf S), .agg (cellsOf T), .pointer (some ⟨w.heap.size, 0, none⟩), .pointer (some ⟨w.heap.size + 1, 0, none⟩), .bool false, .pointer (some ⟨X0.heap.size, 0, none⟩), undef, undef, .tuple #[.agg CS, .int .i64 0], .agg (cellsOf S), v, .agg (cellsOf T), u, v3, .tuple #[.agg CS, .int .i64 0], .agg CS, undef, undef, undef, undef, undef, undef, undef, undef, undef, undef, undef, undef, undef, undef, undef, undef, undef, undef, undef, undef, undef, undef, undef], []⟩) (by kernel_rfl) (by kernel_rfl) (by kernel_rfl) ?_
    refine wpAny_take (i := 8) (v := .int .i64 0) rfl (by kernel_rfl) (by kernel_rfl) (by kernel_rfl) (fun _ _ _ h => h) (Or.inl ⟨by rfl, fun _ => by go_simp⟩) ?_
    refine wpAny_norm (n' := 2) (l' := #[true, true, true, true, true, true, true, true, true, true, false, false]) (a' := ⟨#[.agg (cellsOf S), .agg (cellsOf T), .pointer (some ⟨w.heap.size, 0, none⟩), .pointer (some ⟨w.heap.size + 1, 0, none⟩), .bool false, .pointer (some ⟨X0.heap.size, 0, none⟩), undef, undef, .tuple #[.agg CS, .int .i64 0], .agg (cellsOf S), v, .agg (cellsOf T), u, v3, .tuple #[.agg CS, .int .i64 0], .agg CS, .int .i64 0, undef, undef, undef, undef, undef, undef, undef, undef, undef, undef, undef, undef, undef, undef, undef, undef, undef, undef, undef, undef, undef, undef], []⟩) (by kernel_rfl) (by kernel_rfl) (by kernel_rfl) ?_
    refine wpAny_ready (rs := [10]) (by kernel_rfl) (by simp) ?_
    refine AllReady.cons rfl (fun K hK => ?_) ?_
    rotate_left
    · exact AllReady.nil
    refine step_store rfl 25 _ _ rfl X0.heap.size CS rfl rfl 25 _ Z.out (by rw [← hCS]; exact infoBits _) (by rw [← hCS]; exact sizes _ _) (by rw [← hCS]; exact oneCells _) (hK _ _ ?_)
    clear hK K
    have CB : Hid (Box (X5.setRow X0.heap.size CS) X0.heap.size (Slot.ofList (l ++ k))) := by rw [← hCS]; exact box_size Z.out
    replace A : Hid (Box (X5.setRow X0.heap.size CS) w.heap.size S) := (setRow_other _ _ _ _ (by omega)).trans A.out
    replace B : Hid (Box (X5.setRow X0.heap.size CS) (w.heap.size + 1) T) := (setRow_other _ _ _ _ (by omega)).trans B.out
    replace D : Hid (Below w.heap.size w (X5.setRow X0.heap.size CS)) := below_setRow D.out (by omega) _
    clear Z hs
    generalize X5.setRow X0.heap.size CS = X6 at A B D CB ⊢
    refine wpAny_norm (n' := 1) (l' := #[true, true, true, true, true, true, true, true, true, true, true, false]) (a' := ⟨#[.agg (cellsOf S), .agg (cellsOf T), .pointer (some ⟨w.heap.size, 0, none⟩), .pointer (some ⟨w.heap.size + 1, 0, none⟩), .bool false, .pointer (some ⟨X0.heap.size, 0, none⟩), undef, undef, .tuple #[.agg CS, .int .i64 0], .agg (cellsOf S), v, .agg (cellsOf T), u, v3, .tuple #[.agg CS, .int .i64 0], .agg CS, .int .i64 0, undef, undef, undef, undef, undef, undef, undef, undef, undef, undef, undef, undef, undef, undef, undef, undef, undef, undef, undef, undef, undef, undef], []⟩) (by kernel_rfl) (by kernel_rfl) (by kernel_rfl) ?_
    refine wpAny_take (i := 11) (v := .int .i64 0) rfl (by kernel_rfl) (by kernel_rfl) (by kernel_rfl) (fun _ _ _ h => h) (Or.inl ⟨by rfl, fun _ => by go_simp⟩) ?_
    refine wpAny_norm (n' := 0) (l' := #[true, true, true, true, true, true, true, true, true, true, true, true]) (a' := ⟨#[.agg (cellsOf S), .agg (cellsOf T), .pointer (some ⟨w.heap.size, 0, none⟩), .pointer (some ⟨w.heap.size + 1, 0, none⟩), .bool false, .pointer (some ⟨X0.heap.size, 0, none⟩), .int .i64 0, undef, .tuple #[.agg CS, .int .i64 0], .agg (cellsOf S), v, .agg (cellsOf T), u, v3, .tuple #[.agg CS, .int .i64 0], .agg CS, .int .i64 0, undef, undef, undef, undef, undef, undef, undef, undef, undef, undef, undef, undef, undef, undef, undef, undef, undef, undef, undef, undef, undef, undef], []⟩) (by kernel_rfl) (by kernel_rfl) (by kernel_rfl) ?_
    refine wpAny_done (by kernel_rfl) ?_ _
    exact rest.out X0.heap.size X6 (Slot.ofList (l ++ k)) _ _ _ _ _ _ _ _ _ A.out B.out CB.out (fun n hn => by rw [ofList_append, RL.out.ofList n (Nat.zero_le _) hn, RK.out.ofList n (Nat.zero_le _) hn]) hb5 D.out
  refine AllReady.cons rfl (fun K hK => ?_) ?_
  rotate_left
  · exact AllReady.nil
  go_simp
  refine hK _ _ ?_
  clear hK K
  have hb := below_alloc X0 (.cells (cellsOf fun _ => false) 25)
  replace A := hid (A.out.below hb A.out.lt)
  replace B := hid (B.out.below hb B.out.lt)
  replace D := hid (D.out.trans (hb.mono D.out.size))
  have Z := hid (box_new X0 (fun _ => false))
  have hb5 : w.heap.size + 2 ≤ X0.heap.size := hs
  replace hs : w.heap.size + 2 ≤ (X0.alloc (.cells (cellsOf fun _ => false) 25)).heap.size := Nat.le_trans hs hb.size
  clear hb
  generalize X0.alloc (.cells (cellsOf fun _ => false) 25) = X1 at A B D Z hs ⊢
  refine wpAny_norm (n' := 11) (l' := #[false, false, false, false, false, false, false, false, false, true, false, false]) (a' := ⟨#[.agg (cellsOf S), .agg (cellsOf T), .pointer (some ⟨w.heap.size, 0, none⟩), .pointer (some ⟨w.heap.size + 1, 0, none⟩), .bool false, .pointer (some ⟨X0.heap.size, 0, none⟩), undef, undef, undef, undef, undef, undef, undef, undef, undef, undef, undef, undef, undef, undef, undef, undef, undef, undef, undef, undef, undef, undef, undef, undef, undef, undef, undef, undef, undef, undef, undef, undef, undef], []⟩) (by kernel_rfl) (by kernel_rfl) (by kernel_rfl) ?_
  refine wpAny_ready (rs := [0, 2]) (by kernel_rfl) (by simp) ?_
  refine AllReady.cons rfl (fun K hK => ?_) ?_
  · refine step_load rfl 25 _ rfl w.heap.size rfl 25 _ (0, 0) _ A.out Tryd.underlying25 rfl (infoBits _) (hK _ _ ?_)
    clear hK K
    refine wpAny_norm (n' := 10) (l' := #[true, false, false, false, false, false, false, false, false, true, false, false]) (a' := ⟨#[.agg (cellsOf S), .agg (cellsOf T), .pointer (some ⟨w.heap.size, 0, none⟩), .pointer (some ⟨w.heap.size + 1, 0, none⟩), .bool false, .pointer (some ⟨X0.heap.size, 0, none⟩), undef, undef, undef, .agg (cellsOf S), undef, undef, undef, undef, undef, undef, undef, undef, undef, undef, undef, undef, undef, undef, undef, undef, undef, undef, undef, undef, undef, undef, undef, undef, undef, undef, undef, undef, undef], []⟩) (by kernel_rfl) (by kernel_rfl) (by kernel_rfl) ?_
    refine wpAny_ready (rs := [1, 2]) (by kernel_rfl) (by simp) ?_
    refine AllReady.cons rfl (fun K hK => ?_) ?_
    · go_simp
      go_wp2_with (go_at_call 9; refine (HRa.out _).mono ?_; rintro e X2 ⟨⟨l, v, rfl, hruns, hown⟩, hb⟩)
      have ZN : Hid (∀ q, v.ownBlock = some q → q ≠ X0.heap.size) := fun q hq => by have := (World.ownsRow.lt hown q hq).1; have := Z.out.lt; omega
      replace A := hid (A.out.below hb A.out.lt)
      replace B := hid (B.out.below hb B.out.lt)
      replace D := hid (D.out.trans (hb.mono D.out.size))
      replace Z := hid (Z.out.below hb Z.out.lt)
      have RL := hid hruns
      have OL := hid (owns_mono (B' := w.heap.size + 2) hown (by omega))
      replace hs : w.heap.size + 2 ≤ X2.heap.size := Nat.le_trans hs hb.size
      clear hruns hown hb
      refine wpAny_norm (n' := 9) (l' := #[true, true, false, false, false, false, false, false, false, true, false, false]) (a' := ⟨#[.agg (cellsOf S), .agg (cellsOf T), .pointer (some ⟨w.heap.size, 0, none⟩), .pointer (some ⟨w.heap.size + 1, 0, none⟩), .bool false, .pointer (some ⟨X0.heap.size, 0, none⟩), undef, undef, undef, .agg (cellsOf S), v, undef, undef, undef, undef, undef, undef, undef, undef, undef, undef, undef, undef, undef, undef, undef, undef, undef, undef, undef, undef, undef, undef, undef, undef, undef, undef, undef, undef], []⟩) (by kernel_rfl) (by kernel_rfl) (by kernel_rfl) ?_
      refine wpAny_ready (rs := [2]) (by kernel_rfl) (by simp) ?_
      refine AllReady.cons rfl (fun K hK => ?_) ?_
      rotate_left
      · exact AllReady.nil
      refine step_load rfl 25 _ rfl (w.heap.size + 1) rfl 25 _ (0, 0) _ B.out Tryd.underlying25 rfl (infoBits _) (hK _ _ ?_)
      clear hK K
      refine wpAny_norm (n' := 8) (l' := #[true, true, true, false, false, false, false, false, false, true, false, false]) (a' := ⟨#[.agg (cellsOf S), .agg (cellsOf T), .pointer (some ⟨w.heap.size, 0, none⟩), .pointer (some ⟨w.heap.size + 1, 0, none⟩), .bool false, .pointer (some ⟨X0.heap.size, 0, none⟩), undef, undef, undef, .agg (cellsOf S), v, .agg (cellsOf T), undef, undef, undef, undef, undef, undef, undef, undef, undef, undef, undef, undef, undef, undef, undef, undef, undef, undef, undef, undef, undef, undef, undef, undef, undef, undef, undef], []⟩) (by kernel_rfl) (by kernel_rfl) (by kernel_rfl) ?_
      refine wpAny_ready (rs := [3]) (by kernel_rfl) (by simp) ?_
      refine AllReady.cons rfl (fun K hK => ?_) ?_
      rotate_left
      · exact AllReady.nil
      go_simp
      go_wp2_with (go_at_call 9; refine (HRb.out _).mono ?_; rintro e X3 ⟨⟨k, u, rfl, hruns, hown⟩, hb⟩)
      replace A := hid (A.out.below hb A.out.lt)
      replace B := hid (B.out.below hb B.out.lt)
      replace D := hid (D.out.trans (hb.mono D.out.size))
      replace Z := hid (Z.out.below hb Z.out.lt)
      replace OL := hid (owns_below OL.out hb)
      have RK := hid hruns
      have OK := hid (owns_mono (B' := w.heap.size + 2) hown (by omega))
      replace hs : w.heap.size + 2 ≤ X3.heap.size := Nat.le_trans hs hb.size
      clear hruns hown hb
      refine wpAny_norm (n' := 7) (l' := #[true, true, true, true, false, false, false, false, false, true, false, false]) (a' := ⟨#[.agg (cellsOf S), .agg (cellsOf T), .pointer (some ⟨w.heap.size, 0, none⟩), .pointer (some ⟨w.heap.size + 1, 0, none⟩), .bool false, .pointer (some ⟨X0.heap.size, 0, none⟩), undef, undef, undef, .agg (cellsOf S), v, .agg (cellsOf T), u, undef, undef, undef, undef, undef, undef, undef, undef, undef, undef, undef, undef, undef, undef, undef, undef, undef, undef, undef, undef, undef, undef, undef, undef, undef, undef], []⟩) (by kernel_rfl) (by kernel_rfl) (by kernel_rfl) ?_
      refine wpAny_ready (rs := [4]) (by kernel_rfl) (by simp) ?_
      refine AllReady.cons rfl (fun K hK => ?_) ?_
      rotate_left
      · exact AllReady.nil
      obtain ⟨v3, X4, hr3, ho3, hb3, hg3⟩ := join_run (w.heap.size + 2) _ X3 v u l k OL.out OK.out hs (by have := RL.out.length (by unfold top; omega); have := RK.out.length (by unfold top; omega); unfold top at *; omega)
      refine step_append_run rfl _ _ 31 rfl _ _ _ _ rfl rfl hr3 (hK _ _ ?_)
      clear hK K
      replace A := hid (A.out.below hb3 (by omega))
      replace B := hid (B.out.below hb3 (by omega))
      replace D := hid (D.out.trans (hb3.mono (by omega)))
      replace Z := hid (box_grown Z.out hg3 ZN.out)
      have OJ := hid ho3
      replace hs : w.heap.size + 2 ≤ X4.heap.size := Nat.le_trans hs hb3.size
      clear hr3 ho3 hb3 hg3 OL OK
      refine wpAny_norm (n' := 6) (l' := #[true, true, true, true, true, false, false, false, false, true, false, false]) (a' := ⟨#[.agg (cellsOf S), .agg (cellsOf T), .pointer (some ⟨w.heap.size, 0, none⟩), .pointer (some ⟨w.heap.size + 1, 0, none⟩), .bool false, .pointer (some ⟨X0.heap.size, 0, none⟩), undef, undef, undef, .agg (cellsOf S), v, .agg (cellsOf T), u, v3, undef, undef, undef, undef, undef, undef, undef, undef, undef, undef, undef, undef, undef, undef, undef, undef, undef, undef, undef, undef, undef, undef, undef, undef, undef], []⟩) (by kernel_rfl) (by kernel_rfl) (by kernel_rfl) ?_
      refine wpAny_ready (rs := [5]) (by kernel_rfl) (by simp) ?_
      refine AllReady.cons rfl (fun K hK => ?_) ?_
      rotate_left
      · exact AllReady.nil
      go_simp
      go_wp2_with (go_at_call 8; refine (make_own OJ.out (by rw [List.length_append]; have := RL.out.length (by unfold top; omega); have := RK.out.length (by unfold top; omega); unfold top at *; omega) (fun p hp => by rcases List.mem_append.1 hp with h | h; exact RL.out.valid p h; exact RK.out.valid p h)).mono ?_; rintro e X5 ⟨rfl, hb⟩)
      clear OJ
      replace A := hid (A.out.below hb A.out.lt)
      replace B := hid (B.out.below hb B.out.lt)
      replace D := hid (D.out.trans (hb.mono D.out.size))
      replace Z := hid (Z.out.below hb Z.out.lt)
      replace hs : w.heap.size + 2 ≤ X5.heap.size := Nat.le_trans hs hb.size
      clear hb
      generalize hCS : cellsOf (Slot.ofList (l ++ k)) = CS
      refine wpAny_norm (n' := 5) (l' := #[true, true, true, true, true, true, false, false, false, true, false, false]) (a' := ⟨#[.agg (cellsOf S), .agg (cellsOf T), .pointer (some ⟨w.heap.size, 0, none⟩), .pointer (some ⟨w.heap.size + 1, 0, none⟩), .bool false, .pointer (some ⟨X0.heap.size, 0, none⟩), undef, undef, undef, .agg (cellsOf S), v, .agg (cellsOf T), u, v3, .tuple #[.agg CS, .int .i64 0], undef, undef, undef, undef, undef, undef, undef, undef, undef, undef, undef, undef, undef, undef, undef, undef, undef, undef, undef, undef, undef, undef, undef, undef], []⟩) (by kernel_rfl) (by kernel_rfl) (by kernel_rfl) ?_
      refine wpAny_take (i := 6) (v := .tuple #[.agg CS, .int .i64 0]) rfl (by kernel_rfl) (by kernel_rfl) (by kernel_rfl) (fun _ _ _ h => h) (Or.inl ⟨by rfl, fun _ => by go_simp⟩) ?_
      refine wpAny_norm (n' := 4) (l' := #[true, true, true, true, true, true, true, false, false, true, false, false]) (a' := ⟨#[.agg (cellsOf S), .agg (cellsOf T), .pointer (some ⟨w.heap.size, 0, none⟩), .pointer (some ⟨w.heap.size + 1, 0, none⟩), .bool false, .pointer (some ⟨X0.heap.size, 0, none⟩), undef, undef, .tuple #[.agg CS, .int .i64 0], .agg (cellsOf S), v, .agg (cellsOf T), u, v3, .tuple #[.agg CS, .int .i64 0], undef, undef, undef, undef, undef, undef, undef, undef, undef, undef, undef, undef, undef, undef, undef, undef, undef, undef, undef, undef, undef, undef, undef, undef], []⟩) (by kernel_rfl) (by kernel_rfl) (by kernel_rfl) ?_
      refine wpAny_take (i := 7) (v := .agg CS) rfl (by kernel_rfl) (by kernel_rfl) (by kernel_rfl) (fun _ _ _ h => h) (Or.inl ⟨by rfl, fun _ => by go_simp⟩) ?_
      refine wpAny_norm (n' := 3) (l' := #[true, true, true, true, true, true, true, true, false, true, false, false]) (a' := ⟨#[.agg (cellsOf S), .agg (cellsOf T), .pointer (some ⟨w.heap.size, 0, none⟩), .pointer (some ⟨w.heap.size + 1, 0, none⟩), .bool false, .pointer (some ⟨X0.heap.size, 0, none⟩), undef, undef, .tuple #[.agg CS, .int .i64 0], .agg (cellsOf S), v, .agg (cellsOf T), u, v3, .tuple #[.agg CS, .int .i64 0], .agg CS, undef, undef, undef, undef, undef, undef, undef, undef, undef, undef, undef, undef, undef, undef, undef, undef, undef, undef, undef, undef, undef, undef, undef], []⟩) (by kernel_rfl) (by kernel_rfl) (by kernel_rfl) ?_
      refine wpAny_take (i := 8) (v := .int .i64 0) rfl (by kernel_rfl) (by kernel_rfl) (by kernel_rfl) (fun _ _ _ h => h) (Or.inl ⟨by rfl, fun _ => by go_simp⟩) ?_
      refine wpAny_norm (n' := 2) (l' := #[true, true, true, true, true, true, true, true, true, true, false, false]) (a' := ⟨#[.agg (cellsOf S), .agg (cellsOf T), .pointer (some ⟨w.heap.size, 0, none⟩), .pointer (some ⟨w.heap.size + 1, 0, none⟩), .bool false, .pointer (some ⟨X0.heap.size, 0, none⟩), undef, undef, .tuple #[.agg CS, .int .i64 0], .agg (cellsOf S), v, .agg (cellsOf T), u, v3, .tuple #[.agg CS, .int .i64 0], .agg CS, .int .i64 0, undef, undef, undef, undef, undef, undef, undef, undef, undef, undef, undef, undef, undef, undef, undef, undef, undef, undef, undef, undef, undef, undef], []⟩) (by kernel_rfl) (by kernel_rfl) (by kernel_rfl) ?_
      refine wpAny_ready (rs := [10]) (by kernel_rfl) (by simp) ?_
      refine AllReady.cons rfl (fun K hK => ?_) ?_
      rotate_left
      · exact AllReady.nil
      refine step_store rfl 25 _ _ rfl X0.heap.size CS rfl rfl 25 _ Z.out (by rw [← hCS]; exact infoBits _) (by rw [← hCS]; exact sizes _ _) (by rw [← hCS]; exact oneCells _) (hK _ _ ?_)
      clear hK K
      have CB : Hid (Box (X5.setRow X0.heap.size CS) X0.heap.size (Slot.ofList (l ++ k))) := by rw [← hCS]; exact box_size Z.out
      replace A : Hid (Box (X5.setRow X0.heap.size CS) w.heap.size S) := (setRow_other _ _ _ _ (by omega)).trans A.out
      replace B : Hid (Box (X5.setRow X0.heap.size CS) (w.heap.size + 1) T) := (setRow_other _ _ _ _ (by omega)).trans B.out
      replace D : Hid (Below w.heap.size w (X5.setRow X0.heap.size CS)) := below_setRow D.out (by omega) _
      clear Z hs
      generalize X5.setRow X0.heap.size CS = X6 at A B D CB ⊢
      refine wpAny_norm (n' := 1) (l' := #[true, true, true, true, true, true, true, true, true, true, true, false]) (a' := ⟨#[.agg (cellsOf S), .agg (cellsOf T), .pointer (some ⟨w.heap.size, 0, none⟩), .pointer (some ⟨w.heap.size + 1, 0, none⟩), .bool false, .pointer (some ⟨X0.heap.size, 0, none⟩), undef, undef, .tuple #[.agg CS, .int .i64 0], .agg (cellsOf S), v, .agg (cellsOf T), u, v3, .tuple #[.agg CS, .int .i64 0], .agg CS, .int .i64 0, undef, undef, undef, undef, undef, undef, undef, undef, undef, undef, undef, undef, undef, undef, undef, undef, undef, undef, undef, undef, undef, undef], []⟩) (by kernel_rfl) (by kernel_rfl) (by kernel_rfl) ?_
      refine wpAny_take (i := 11) (v := .int .i64 0) rfl (by kernel_rfl) (by kernel_rfl) (by kernel_rfl) (fun _ _ _ h => h) (Or.inl ⟨by rfl, fun _ => by go_simp⟩) ?_
      refine wpAny_norm (n' := 0) (l' := #[true, true, true, true, true, true, true, true, true, true, true, true]) (a' := ⟨#[.agg (cellsOf S), .agg (cellsOf T), .pointer (some ⟨w.heap.size, 0, none⟩), .pointer (some ⟨w.heap.size + 1, 0, none⟩), .bool false, .pointer (some ⟨X0.heap.size, 0, none⟩), .int .i64 0, undef, .tuple #[.agg CS, .int .i64 0], .agg (cellsOf S), v, .agg (cellsOf T), u, v3, .tuple #[.agg CS, .int .i64 0], .agg CS, .int .i64 0, undef, undef, undef, undef, undef, undef, undef, undef, undef, undef, undef, undef, undef, undef, undef, undef, undef, undef, undef, undef, undef, undef], []⟩) (by kernel_rfl) (by kernel_rfl) (by kernel_rfl) ?_
      refine wpAny_done (by kernel_rfl) ?_ _
      exact rest.out X0.heap.size X6 (Slot.ofList (l ++ k)) _ _ _ _ _ _ _ _ _ A.out B.out CB.out (fun n hn => by rw [ofList_append, RL.out.ofList n (Nat.zero_le _) hn, RK.out.ofList n (Nat.zero_le _) hn]) hb5 D.out
    refine AllReady.cons rfl (fun K hK => ?_) ?_
    rotate_left
    · exact AllReady.nil
    refine step_load rfl 25 _ rfl (w.heap.size + 1) rfl 25 _ (0, 0) _ B.out Tryd.underlying25 rfl (infoBits _) (hK _ _ ?_)
    clear hK K
    refine wpAny_norm (n' := 9) (l' := #[true, false, true, false, false, false, false, false, false, true, false, false]) (a' := ⟨#[.agg (cellsOf S), .agg (cellsOf T), .pointer (some ⟨w.heap.size, 0, none⟩), .pointer (some ⟨w.heap.size + 1, 0, none⟩), .bool false, .pointer (some ⟨X0.heap.size, 0, none⟩), undef, undef, undef, .agg (cellsOf S), undef, .agg (cellsOf T), undef, undef, undef, undef, undef, undef, undef, undef, undef, undef, undef, undef, undef, undef, undef, undef, undef, undef, undef, undef, undef, undef, undef, undef, undef, undef, undef], []⟩) (by kernel_rfl) (by kernel_rfl) (by kernel_rfl) ?_
    refine wpAny_ready (rs := [1]) (by kernel_rfl) (by simp) ?_
    refine AllReady.cons rfl (fun K hK => ?_) ?_
    rotate_left
    · exact AllReady.nil
    go_simp
    go_wp2_with (go_at_call 9; refine (HRa.out _).mono ?_; rintro e X2 ⟨⟨l, v, rfl, hruns, hown⟩, hb⟩)
    have ZN : Hid (∀ q, v.ownBlock = some q → q ≠ X0.heap.size) := fun q hq => by have := (World.ownsRow.lt hown q hq).1; have := Z.out.lt; omega
    replace A := hid (A.out.below hb A.out.lt)
    replace B := hid (B.out.below hb B.out.lt)
    replace D := hid (D.out.trans (hb.mono D.out.size))
    replace Z := hid (Z.out.below hb Z.out.lt)
    have RL := hid hruns
    have OL := hid (owns_mono (B' := w.heap.size + 2) hown (by omega))
    replace hs : w.heap.size + 2 ≤ X2.heap.size := Nat.le_trans hs hb.size
    clear hruns hown hb
    refine wpAny_norm (n' := 8) (l' := #[true, true, true, false, false, false, false, false, false, true, false, false]) (a' := ⟨#[.agg (cellsOf S), .agg (cellsOf T), .pointer (some ⟨w.heap.size, 0, none⟩), .pointer (some ⟨w.heap.size + 1, 0, none⟩), .bool false, .pointer (some ⟨X0.heap.size, 0, none⟩), undef, undef, undef, .agg (cellsOf S), v, .agg (cellsOf T), undef, undef, undef, undef, undef, undef, undef, undef, undef, undef, undef, undef, undef, undef, undef, undef, undef, undef, undef, undef, undef, undef, undef, undef, undef, undef, undef], []⟩) (by kernel_rfl) (by kernel_rfl) (by kernel_rfl) ?_
    refine wpAny_ready (rs := [3]) (by kernel_rfl) (by simp) ?_
    refine AllReady.cons rfl (fun K hK => ?_) ?_
    rotate_left
    · exact AllReady.nil
    go_simp
    go_wp2_with (go_at_call 9; refine (HRb.out _).mono ?_; rintro e X3 ⟨⟨k, u, rfl, hruns, hown⟩, hb⟩)
    replace A := hid (A.out.below hb A.out.lt)
    replace B := hid (B.out.below hb B.out.lt)
    replace D := hid (D.out.trans (hb.mono D.out.size))
    replace Z := hid (Z.out.below hb Z.out.lt)
    replace OL := hid (owns_below OL.out hb)
    have RK := hid hruns
    have OK := hid (owns_mono (B' := w.heap.size + 2) hown (by omega))
    replace hs : w.heap.size + 2 ≤ X3.heap.size := Nat.le_trans hs hb.size
    clear hruns hown hb
    refine wpAny_norm (n' := 7) (l' := #[true, true, true, true, false, false, false, false, false, true, false, false]) (a' := ⟨#[.agg (cellsOf S), .agg (cellsOf T), .pointer (some ⟨w.heap.size, 0, none⟩), .pointer (some ⟨w.heap.size + 1, 0, none⟩), .bool false, .pointer (some ⟨X0.heap.size, 0, none⟩), undef, undef, undef, .agg (cellsOf S), v, .agg (cellsOf T), u, undef, undef, undef, undef, undef, undef, undef, undef, undef, undef, undef, undef, undef, undef, undef, undef, undef, undef, undef, undef, undef, undef, undef, undef, undef, undef], []⟩) (by kernel_rfl) (by kernel_rfl) (by kernel_rfl) ?_
    refine wpAny_ready (rs := [4]) (by kernel_rfl) (by simp) ?_
    refine AllReady.cons rfl (fun K hK => ?_) ?_
    rotate_left
    · exact AllReady.nil
    obtain ⟨v3, X4, hr3, ho3, hb3, hg3⟩ := join_run (w.heap.size + 2) _ X3 v u l k OL.out OK.out hs (by have := RL.out.length (by unfold top; omega); have := RK.out.length (by unfold top; omega); unfold top at *; omega)
    refine step_append_run rfl _ _ 31 rfl _ _ _ _ rfl rfl hr3 (hK _ _ ?_)
    clear hK K
    replace A := hid (A.out.below hb3 (by omega))
    replace B := hid (B.out.below hb3 (by omega))
    replace D := hid (D.out.trans (hb3.mono (by omega)))
    replace Z := hid (box_grown Z.out hg3 ZN.out)
    have OJ := hid ho3
    replace hs : w.heap.size + 2 ≤ X4.heap.size := Nat.le_trans hs hb3.size
    clear hr3 ho3 hb3 hg3 OL OK
    refine wpAny_norm (n' := 6) (l' := #[true, true, true, true, true, false, false, false, false, true, false, false]) (a' := ⟨#[.agg (cellsOf S), .agg (cellsOf T), .pointer (some ⟨w.heap.size, 0, none⟩), .pointer (some ⟨w.heap.size + 1, 0, none⟩), .bool false, .pointer (some ⟨X0.heap.size, 0, none⟩), undef, undef, undef, .agg (cellsOf S), v, .agg (cellsOf T), u, v3, undef, undef, undef, undef, undef, undef, undef, undef, undef, undef, undef, undef, undef, undef, undef, undef, undef, undef, undef, undef, undef, undef, undef, undef, undef], []⟩) (by kernel_rfl) (by kernel_rfl) (by kernel_rfl) ?_
    refine wpAny_ready (rs := [5]) (by kernel_rfl) (by simp) ?_
    refine AllReady.cons rfl (fun K hK => ?_) ?_
    rotate_left
    · exact AllReady.nil
    go_simp
    go_wp2_with (go_at_call 8; refine (make_own OJ.out (by rw [List.length_append]; have := RL.out.length (by unfold top; omega); have := RK.out.length (by unfold top; omega); unfold top at *; omega) (fun p hp => by rcases List.mem_append.1 hp with h | h; exact RL.out.valid p h; exact RK.out.valid p h)).mono ?_; rintro e X5 ⟨rfl, hb⟩)
    clear OJ
    replace A := hid (A.out.below hb A.out.lt)
    replace B := hid (B.out.below hb B.out.lt)
    replace D := hid (D.out.trans (hb.mono D.out.size))
    replace Z := hid (Z.out.below hb Z.out.lt)
    replace hs : w.heap.size + 2 ≤ X5.heap.size := Nat.le_trans hs hb.size
    clear hb
    generalize hCS : cellsOf (Slot.ofList (l ++ k)) = CS
    refine wpAny_norm (n' := 5) (l' := #[true, true, true, true, true, true, false, false, false, true, false, false]) (a' := ⟨#[.agg (cellsOf S), .agg (cellsOf T), .pointer (some ⟨w.heap.size, 0, none⟩), .pointer (some ⟨w.heap.size + 1, 0, none⟩), .bool false, .pointer (some ⟨X0.heap.size, 0, none⟩), undef, undef, undef, .agg (cellsOf S), v, .agg (cellsOf T), u, v3, .tuple #[.agg CS, .int .i64 0], undef, undef, undef, undef, undef, undef, undef, undef, undef, undef, undef, undef, undef, undef, undef, undef, undef, undef, undef, undef, undef, undef, undef, undef], []⟩) (by kernel_rfl) (by kernel_rfl) (by kernel_rfl) ?_
    refine wpAny_take (i := 6) (v := .tuple #[.agg CS, .int .i64 0]) rfl (by kernel_rfl) (by kernel_rfl) (by kernel_rfl) (fun _ _ _ h => h) (Or.inl ⟨by rfl, fun _ => by go_simp⟩) ?_
    refine wpAny_norm (n' := 4) (l' := #[true, true, true, true, true, true, true, false, false, true, false, false]) (a' := ⟨#[.agg (cellsOf S), .agg (cellsOf T), .pointer (some ⟨w.heap.size, 0, none⟩), .pointer (some ⟨w.heap.size + 1, 0, none⟩), .bool false, .pointer (some ⟨X0.heap.size, 0, none⟩), undef, undef, .tuple #[.agg CS, .int .i64 0], .agg (cellsOf S), v, .agg (cellsOf T), u, v3, .tuple #[.agg CS, .int .i64 0], undef, undef, undef, undef, undef, undef, undef, undef, undef, undef, undef, undef, undef, undef, undef, undef, undef, undef, undef, undef, undef, undef, undef, undef], []⟩) (by kernel_rfl) (by kernel_rfl) (by kernel_rfl) ?_
    refine wpAny_take (i := 7) (v := .agg CS) rfl (by kernel_rfl) (by kernel_rfl) (by kernel_rfl) (fun _ _ _ h => h) (Or.inl ⟨by rfl, fun _ => by go_simp⟩) ?_
    refine wpAny_norm (n' := 3) (l' := #[true, true, true, true, true, true, true, true, false, true, false, false]) (a' := ⟨#[.agg (cellsOf S), .agg (cellsOf T), .pointer (some ⟨w.heap.size, 0, none⟩), .pointer (some ⟨w.heap.size + 1, 0, none⟩), .bool false, .pointer (some ⟨X0.heap.size, 0, none⟩), undef, undef, .tuple #[.agg CS, .int .i64 0], .agg (cellsOf S), v, .agg (cellsOf T), u, v3, .tuple #[.agg CS, .int .i64 0], .agg CS, undef, undef, undef, undef, undef, undef, undef, undef, undef, undef, undef, undef, undef, undef, undef, undef, undef, undef, undef, undef, undef, undef, undef], []⟩) (by kernel_rfl) (by kernel_rfl) (by kernel_rfl) ?_
    refine wpAny_take (i := 8) (v := .int .i64 0) rfl (by kernel_rfl) (by kernel_rfl) (by kernel_rfl) (fun _ _ _ h => h) (Or.inl ⟨by rfl, fun _ => by go_simp⟩) ?_
    refine wpAny_norm (n' := 2) (l' := #[true, true, true, true, true, true, true, true, true, true, false, false]) (a' := ⟨#[.agg (cellsOf S), .agg (cellsOf T), .pointer (some ⟨w.heap.size, 0, none⟩), .pointer (some ⟨w.heap.size + 1, 0, none⟩), .bool false, .pointer (some ⟨X0.heap.size, 0, none⟩), undef, undef, .tuple #[.agg CS, .int .i64 0], .agg (cellsOf S), v, .agg (cellsOf T), u, v3, .tuple #[.agg CS, .int .i64 0], .agg CS, .int .i64 0, undef, undef, undef, undef, undef, undef, undef, undef, undef, undef, undef, undef, undef, undef, undef, undef, undef, undef, undef, undef, undef, undef], []⟩) (by kernel_rfl) (by kernel_rfl) (by kernel_rfl) ?_
    refine wpAny_ready (rs := [10]) (by kernel_rfl) (by simp) ?_
    refine AllReady.cons rfl (fun K hK => ?_) ?_
    rotate_left
    · exact AllReady.nil
    refine step_store rfl 25 _ _ rfl X0.heap.size CS rfl rfl 25 _ Z.out (by rw [← hCS]; exact infoBits _) (by rw [← hCS]; exact sizes _ _) (by rw [← hCS]; exact oneCells _) (hK _ _ ?_)
    clear hK K
    have CB : Hid (Box (X5.setRow X0.heap.size CS) X0.heap.size (Slot.ofList (l ++ k))) := by rw [← hCS]; exact box_size Z.out
    replace A : Hid (Box (X5.setRow X0.heap.size CS) w.heap.size S) := (setRow_other _ _ _ _ (by omega)).trans A.out
    replace B : Hid (Box (X5.setRow X0.heap.size CS) (w.heap.size + 1) T) := (setRow_other _ _ _ _ (by omega)).trans B.out
    replace D : Hid (Below w.heap.size w (X5.setRow X0.heap.size CS)) := below_setRow D.out (by omega) _
    clear Z hs
    generalize X5.setRow X0.heap.size CS = X6 at A B D CB ⊢
    refine wpAny_norm (n' := 1) (l' := #[true, true, true, true, true, true, true, true, true, true, true, false]) (a' := ⟨#[.agg (cellsOf S), .agg (cellsOf T), .pointer (some ⟨w.heap.size, 0, none⟩), .pointer (some ⟨w.heap.size + 1, 0, none⟩), .bool false, .pointer (some ⟨X0.heap.size, 0, none⟩), undef, undef, .tuple #[.agg CS, .int .i64 0], .agg (cellsOf S), v, .agg (cellsOf T), u, v3, .tuple #[.agg CS, .int .i64 0], .agg CS, .int .i64 0, undef, undef, undef, undef, undef, undef, undef, undef, undef, undef, undef, undef, undef, undef, undef, undef, undef, undef, undef, undef, undef, undef], []⟩) (by kernel_rfl) (by kernel_rfl) (by kernel_rfl) ?_
    refine wpAny_take (i := 11) (v := .int .i64 0) rfl (by kernel_rfl) (by kernel_rfl) (by kernel_rfl) (fun _ _ _ h => h) (Or.inl ⟨by rfl, fun _ => by go_simp⟩) ?_
    refine wpAny_norm (n' := 0) (l' := #[true, true, true, true, true, true, true, true, true, true, true, true]) (a' := ⟨#[.agg (cellsOf S), .agg (cellsOf T), .pointer (some ⟨w.heap.size, 0, none⟩), .pointer (some ⟨w.heap.size + 1, 0, none⟩), .bool false, .pointer (some ⟨X0.heap.size, 0, none⟩), .int .i64 0, undef, .tuple #[.agg CS, .int .i64 0], .agg (cellsOf S), v, .agg (cellsOf T), u, v3, .tuple #[.agg CS, .int .i64 0], .agg CS, .int .i64 0, undef, undef, undef, undef, undef, undef, undef, undef, undef, undef, undef, undef, undef, undef, undef, undef, undef, undef, undef, undef, undef, undef], []⟩) (by kernel_rfl) (by kernel_rfl) (by kernel_rfl) ?_
    refine wpAny_done (by kernel_rfl) ?_ _
    exact rest.out X0.heap.size X6 (Slot.ofList (l ++ k)) _ _ _ _ _ _ _ _ _ A.out B.out CB.out (fun n hn => by rw [ofList_append, RL.out.ofList n (Nat.zero_le _) hn, RK.out.ofList n (Nat.zero_le _) hn]) hb5 D.out
  refine AllReady.cons rfl (fun K hK => ?_) ?_
  rotate_left
  · exact AllReady.nil
  refine step_load rfl 25 _ rfl (w.heap.size + 1) rfl 25 _ (0, 0) _ B.out Tryd.underlying25 rfl (infoBits _) (hK _ _ ?_)
  clear hK K
  refine wpAny_norm (n' := 10) (l' := #[false, false, true, false, false, false, false, false, false, true, false, false]) (a' := ⟨#[.agg (cellsOf S), .agg (cellsOf T), .pointer (some ⟨w.heap.size, 0, none⟩), .pointer (some ⟨w.heap.size + 1, 0, none⟩), .bool false, .pointer (some ⟨X0.heap.size, 0, none⟩), undef, undef, undef, undef, undef, .agg (cellsOf T), undef, undef, undef, undef, undef, undef, undef, undef, undef, undef, undef, undef, undef, undef, undef, undef, undef, undef, undef, undef, undef, undef, undef, undef, undef, undef, undef], []⟩) (by kernel_rfl) (by kernel_rfl) (by kernel_rfl) ?_
  refine wpAny_ready (rs := [0]) (by kernel_rfl) (by simp) ?_
  refine AllReady.cons rfl (fun K hK => ?_) ?_
  rotate_left
  · exact AllReady.nil
  refine step_load rfl 25 _ rfl w.heap.size rfl 25 _ (0, 0) _ A.out Tryd.underlying25 rfl (infoBits _) (hK _ _ ?_)
  clear hK K
  refine wpAny_norm (n' := 9) (l' := #[true, false, true, false, false, false, false, false, false, true, false, false]) (a' := ⟨#[.agg (cellsOf S), .agg (cellsOf T), .pointer (some ⟨w.heap.size, 0, none⟩), .pointer (some ⟨w.heap.size + 1, 0, none⟩), .bool false, .pointer (some ⟨X0.heap.size, 0, none⟩), undef, undef, undef, .agg (cellsOf S), undef, .agg (cellsOf T), undef, undef, undef, undef, undef, undef, undef, undef, undef, undef, undef, undef, undef, undef, undef, undef, undef, undef, undef, undef, undef, undef, undef, undef, undef, undef, undef], []⟩) (by kernel_rfl) (by kernel_rfl) (by kernel_rfl) ?_
  refine wpAny_ready (rs := [1]) (by kernel_rfl) (by simp) ?_
  refine AllReady.cons rfl (fun K hK => ?_) ?_
  rotate_left
  · exact AllReady.nil
  go_simp
  go_wp2_with (go_at_call 9; refine (HRa.out _).mono ?_; rintro e X2 ⟨⟨l, v, rfl, hruns, hown⟩, hb⟩)
  have ZN : Hid (∀ q, v.ownBlock = some q → q ≠ X0.heap.size) := fun q hq => by have := (World.ownsRow.lt hown q hq).1; have := Z.out.lt; omega
  replace A := hid (A.out.below hb A.out.lt)
  replace B := hid (B.out.below hb B.out.lt)
  replace D := hid (D.out.trans (hb.mono D.out.size))
  replace Z := hid (Z.out.below hb Z.out.lt)
  have RL := hid hruns
  have OL := hid (owns_mono (B' := w.heap.size + 2) hown (by omega))
  replace hs : w.heap.size + 2 ≤ X2.heap.size := Nat.le_trans hs hb.size
  clear hruns hown hb
  refine wpAny_norm (n' := 8) (l' := #[true, true, true, false, false, false, false, false, false, true, false, false]) (a' := ⟨#[.agg (cellsOf S), .agg (cellsOf T), .pointer (some ⟨w.heap.size, 0, none⟩), .pointer (some ⟨w.heap.size + 1, 0, none⟩), .bool false, .pointer (some ⟨X0.heap.size, 0, none⟩), undef, undef, undef, .agg (cellsOf S), v, .agg (cellsOf T), undef, undef, undef, undef, undef, undef, undef, undef, undef, undef, undef, undef, undef, undef, undef, undef, undef, undef, undef, undef, undef, undef, undef, undef, undef, undef, undef], []⟩) (by kernel_rfl) (by kernel_rfl) (by kernel_rfl) ?_
  refine wpAny_ready (rs := [3]) (by kernel_rfl) (by simp) ?_
  refine AllReady.cons rfl (fun K hK => ?_) ?_
  rotate_left
  · exact AllReady.nil
  go_simp
  go_wp2_with (go_at_call 9; refine (HRb.out _).mono ?_; rintro e X3 ⟨⟨k, u, rfl, hruns, hown⟩, hb⟩)
  replace A := hid (A.out.below hb A.out.lt)
  replace B := hid (B.out.below hb B.out.lt)
  replace D := hid (D.out.trans (hb.mono D.out.size))
  replace Z := hid (Z.out.below hb Z.out.lt)
  replace OL := hid (owns_below OL.out hb)
  have RK := hid hruns
  have OK := hid (owns_mono (B' := w.heap.size + 2) hown (by omega))
  replace hs : w.heap.size + 2 ≤ X3.heap.size := Nat.le_trans hs hb.size
  clear hruns hown hb
  refine wpAny_norm (n' := 7) (l' := #[true, true, true, true, false, false, false, false, false, true, false, false]) (a' := ⟨#[.agg (cellsOf S), .agg (cellsOf T), .pointer (some ⟨w.heap.size, 0, none⟩), .pointer (some ⟨w.heap.size + 1, 0, none⟩), .bool false, .pointer (some ⟨X0.heap.size, 0, none⟩), undef, undef, undef, .agg (cellsOf S), v, .agg (cellsOf T), u, undef, undef, undef, undef, undef, undef, undef, undef, undef, undef, undef, undef, undef, undef, undef, undef, undef, undef, undef, undef, undef, undef, undef, undef, undef, undef], []⟩) (by kernel_rfl) (by kernel_rfl) (by kernel_rfl) ?_
  refine wpAny_ready (rs := [4]) (by kernel_rfl) (by simp) ?_
  refine AllReady.cons rfl (fun K hK => ?_) ?_
  rotate_left
  · exact AllReady.nil
  obtain ⟨v3, X4, hr3, ho3, hb3, hg3⟩ := join_run (w.heap.size + 2) _ X3 v u l k OL.out OK.out hs (by have := RL.out.length (by unfold top; omega); have := RK.out.length (by unfold top; omega); unfold top at *; omega)
  refine step_append_run rfl _ _ 31 rfl _ _ _ _ rfl rfl hr3 (hK _ _ ?_)
  clear hK K
  replace A := hid (A.out.below hb3 (by omega))
  replace B := hid (B.out.below hb3 (by omega))
  replace D := hid (D.out.trans (hb3.mono (by omega)))
  replace Z := hid (box_grown Z.out hg3 ZN.out)
  have OJ := hid ho3
  replace hs : w.heap.size + 2 ≤ X4.heap.size := Nat.le_trans hs hb3.size
  clear hr3 ho3 hb3 hg3 OL OK
  refine wpAny_norm (n' := 6) (l' := #[true, true, true, true, true, false, false, false, false, true, false, false]) (a' := ⟨#[.agg (cellsOf S), .agg (cellsOf T), .pointer (some ⟨w.heap.size, 0, none⟩), .pointer (some ⟨w.heap.size + 1, 0, none⟩), .bool false, .pointer (some ⟨X0.heap.size, 0, none⟩), undef, undef, undef, .agg (cellsOf S), v, .agg (cellsOf T), u, v3, undef, undef, undef, undef, undef, undef, undef, undef, undef, undef, undef, undef, undef, undef, undef, undef, undef, undef, undef, undef, undef, undef, undef, undef, undef], []⟩) (by kernel_rfl) (by kernel_rfl) (by kernel_rfl) ?_
  refine wpAny_ready (rs := [5]) (by kernel_rfl) (by simp) ?_
  refine AllReady.cons rfl (fun K hK => ?_) ?_
  rotate_left
  · exact AllReady.nil
  go_simp
  go_wp2_with (go_at_call 8; refine (make_own OJ.out (by rw [List.length_append]; have := RL.out.length (by unfold top; omega); have := RK.out.length (by unfold top; omega); unfold top at *; omega) (fun p hp => by rcases List.mem_append.1 hp with h | h; exact RL.out.valid p h; exact RK.out.valid p h)).mono ?_; rintro e X5 ⟨rfl, hb⟩)
  clear OJ
  replace A := hid (A.out.below hb A.out.lt)
  replace B := hid (B.out.below hb B.out.lt)
  replace D := hid (D.out.trans (hb.mono D.out.size))
  replace Z := hid (Z.out.below hb Z.out.lt)
  replace hs : w.heap.size + 2 ≤ X5.heap.size := Nat.le_trans hs hb.size
  clear hb
  generalize hCS : cellsOf (Slot.ofList (l ++ k)) = CS
  refine wpAny_norm (n' := 5) (l' := #[true, true, true, true, true, true, false, false, false, true, false, false]) (a' := ⟨#[.agg (cellsOf S), .agg (cellsOf T), .pointer (some ⟨w.heap.size, 0, none⟩), .pointer (some ⟨w.heap.size + 1, 0, none⟩), .bool false, .pointer (some ⟨X0.heap.size, 0, none⟩), undef, undef, undef, .agg (cellsOf S), v, .agg (cellsOf T), u, v3, .tuple #[.agg CS, .int .i64 0], undef, undef, undef, undef, undef, undef, undef, undef, undef, undef, undef, undef, undef, undef, undef, undef, undef, undef, undef, undef, undef, undef, undef, undef], []⟩) (by kernel_rfl) (by kernel_rfl) (by kernel_rfl) ?_
  refine wpAny_take (i := 6) (v := .tuple #[.agg CS, .int .i64 0]) rfl (by kernel_rfl) (by kernel_rfl) (by kernel_rfl) (fun _ _ _ h => h) (Or.inl ⟨by rfl, fun _ => by go_simp⟩) ?_
  refine wpAny_norm (n' := 4) (l' := #[true, true, true, true, true, true, true, false, false, true, false, false]) (a' := ⟨#[.agg (cellsOf S), .agg (cellsOf T), .pointer (some ⟨w.heap.size, 0, none⟩), .pointer (some ⟨w.heap.size + 1, 0, none⟩), .bool false, .pointer (some ⟨X0.heap.size, 0, none⟩), undef, undef, .tuple #[.agg CS, .int .i64 0], .agg (cellsOf S), v, .agg (cellsOf T), u, v3, .tuple #[.agg CS, .int .i64 0], undef, undef, undef, undef, undef, undef, undef, undef, undef, undef, undef, undef, undef, undef, undef, undef, undef, undef, undef, undef, undef, undef, undef, undef], []⟩) (by kernel_rfl) (by kernel_rfl) (by kernel_rfl) ?_
  refine wpAny_take (i := 7) (v := .agg CS) rfl (by kernel_rfl) (by kernel_rfl) (by kernel_rfl) (fun _ _ _ h => h) (Or.inl ⟨by rfl, fun _ => by go_simp⟩) ?_
  refine wpAny_norm (n' := 3) (l' := #[true, true, true, true, true, true, true, true, false, true, false, false]) (a' := ⟨#[.agg (cellsOf S), .agg (cellsOf T), .pointer (some ⟨w.heap.size, 0, none⟩), .pointer (some ⟨w.heap.size + 1, 0, none⟩), .bool false, .pointer (some ⟨X0.heap.size, 0, none⟩), undef, undef, .tuple #[.agg CS, .int .i64 0], .agg (cellsOf S), v, .agg (cellsOf T), u, v3, .tuple #[.agg CS, .int .i64 0], .agg CS, undef, undef, undef, undef, undef, undef, undef, undef, undef, undef, undef, undef, undef, undef, undef, undef, undef, undef, undef, undef, undef, undef, undef], []⟩) (by kernel_rfl) (by kernel_rfl) (by kernel_rfl) ?_
  refine wpAny_take (i := 8) (v := .int .i64 0) rfl (by kernel_rfl) (by kernel_rfl) (by kernel_rfl) (fun _ _ _ h => h) (Or.inl ⟨by rfl, fun _ => by go_simp⟩) ?_
  refine wpAny_norm (n' := 2) (l' := #[true, true, true, true, true, true, true, true, true, true, false, false]) (a' := ⟨#[.agg (cellsOf S), .agg (cellsOf T), .pointer (some ⟨w.heap.size, 0, none⟩), .pointer (some ⟨w.heap.size + 1, 0, none⟩), .bool false, .pointer (some ⟨X0.heap.size, 0, none⟩), undef, undef, .tuple #[.agg CS, .int .i64 0], .agg (cellsOf S), v, .agg (cellsOf T), u, v3, .tuple #[.agg CS, .int .i64 0], .agg CS, .int .i64 0, undef, undef, undef, undef, undef, undef, undef, undef, undef, undef, undef, undef, undef, undef, undef, undef, undef, undef, undef, undef, undef, undef], []⟩) (by kernel_rfl) (by kernel_rfl) (by kernel_rfl) ?_
  refine wpAny_ready (rs := [10]) (by kernel_rfl) (by simp) ?_
  refine AllReady.cons rfl (fun K hK => ?_) ?_
  rotate_left
  · exact AllReady.nil
  refine step_store rfl 25 _ _ rfl X0.heap.size CS rfl rfl 25 _ Z.out (by rw [← hCS]; exact infoBits _) (by rw [← hCS]; exact sizes _ _) (by rw [← hCS]; exact oneCells _) (hK _ _ ?_)
  clear hK K
  have CB : Hid (Box (X5.setRow X0.heap.size CS) X0.heap.size (Slot.ofList (l ++ k))) := by rw [← hCS]; exact box_size Z.out
  replace A : Hid (Box (X5.setRow X0.heap.size CS) w.heap.size S) := (setRow_other _ _ _ _ (by omega)).trans A.out
  replace B : Hid (Box (X5.setRow X0.heap.size CS) (w.heap.size + 1) T) := (setRow_other _ _ _ _ (by omega)).trans B.out
  replace D : Hid (Below w.heap.size w (X5.setRow X0.heap.size CS)) := below_setRow D.out (by omega) _
  clear Z hs
  generalize X5.setRow X0.heap.size CS = X6 at A B D CB ⊢
  refine wpAny_norm (n' := 1) (l' := #[true, true, true, true, true, true, true, true, true, true, true, false]) (a' := ⟨#[.agg (cellsOf S), .agg (cellsOf T), .pointer (some ⟨w.heap.size, 0, none⟩), .pointer (some ⟨w.heap.size + 1, 0, none⟩), .bool false, .pointer (some ⟨X0.heap.size, 0, none⟩), undef, undef, .tuple #[.agg CS, .int .i64 0], .agg (cellsOf S), v, .agg (cellsOf T), u, v3, .tuple #[.agg CS, .int .i64 0], .agg CS, .int .i64 0, undef, undef, undef, undef, undef, undef, undef, undef, undef, undef, undef, undef, undef, undef, undef, undef, undef, undef, undef, undef, undef, undef], []⟩) (by kernel_rfl) (by kernel_rfl) (by kernel_rfl) ?_
  refine wpAny_take (i := 11) (v := .int .i64 0) rfl (by kernel_rfl) (by kernel_rfl) (by kernel_rfl) (fun _ _ _ h => h) (Or.inl ⟨by rfl, fun _ => by go_simp⟩) ?_
  refine wpAny_norm (n' := 0) (l' := #[true, true, true, true, true, true, true, true, true, true, true, true]) (a' := ⟨#[.agg (cellsOf S), .agg (cellsOf T), .pointer (some ⟨w.heap.size, 0, none⟩), .pointer (some ⟨w.heap.size + 1, 0, none⟩), .bool false, .pointer (some ⟨X0.heap.size, 0, none⟩), .int .i64 0, undef, .tuple #[.agg CS, .int .i64 0], .agg (cellsOf S), v, .agg (cellsOf T), u, v3, .tuple #[.agg CS, .int .i64 0], .agg CS, .int .i64 0, undef, undef, undef, undef, undef, undef, undef, undef, undef, undef, undef, undef, undef, undef, undef, undef, undef, undef, undef, undef, undef, undef], []⟩) (by kernel_rfl) (by kernel_rfl) (by kernel_rfl) ?_
  refine wpAny_done (by kernel_rfl) ?_ _
  exact rest.out X0.heap.size X6 (Slot.ofList (l ++ k)) _ _ _ _ _ _ _ _ _ A.out B.out CB.out (fun n hn => by rw [ofList_append, RL.out.ofList n (Nat.zero_le _) hn, RK.out.ofList n (Nat.zero_le _) hn]) hb5 D.out

end Go.Proofs.YtlgghndpagoalaaDoor
