/- The document's Check. -/
import Derived.Test.YtndmhfhihajbdaaCheck
namespace Go.Proofs.Ytndmhfhihajbdaa
open Go.RowKit

set_option maxHeartbeats 8000000 in
set_option maxRecDepth 100000 in
/-- the document's Check -/
theorem rcheck_any (p : Option Addr) (c : Nat) (l : Row) (w : World) (h : Rd w p c l) (hl : l.length ≤ 200) (ht : Txs l) :
    Calls Try.prog 15 #[.slice p l.length c] w fun e w' => e = .returned (.tuple #[.agg (chk l).1.cs, .int .i64 (chk l).2]) ∧ Hid (Below w.heap.size w w') := by
  obtain ⟨S, hS⟩ : ∃ S, S = (chk l).1 := ⟨_, rfl⟩
  obtain ⟨E, hE⟩ : ∃ E, E = (chk l).2 := ⟨_, rfl⟩
  rw [← hS, ← hE]
  have HS := hid hS
  have HE := hid hE
  clear hS hE
  have HA0 := hid (heap_alloc_new w (.cells zeroSp.cs 25))
  have HB0 := hid (below_alloc w (.cells zeroSp.cs 25))
  by_cases hne : l = []
  · subst hne
    obtain rfl : S = zeroSp := HS.out
    obtain rfl : E = 120 := HE.out
    have HR := hid (setRow_heap _ w.heap.size _ zeroSp.cs _ _ HA0.out)
    have HB := hid (below_setRow HB0.out (Nat.le_refl _) zeroSp.cs)
    go_enter Try.func15, Try.ntmps15
    go_wp2_with (refine Go.wpList_store_rowTo rfl 25 _ _ rfl rfl w.heap.size zeroSp.cs rfl rfl 25 zeroSp.cs HA0.out (info_sp _) rfl (ones_sp _) (Hid.out ?_))
    refine hid ?_
    go_wp2_with fail
    exact bodyPost_ret (v := .tuple #[.agg zeroSp.cs, .int .i64 120]) (ret_sp2 rfl rfl rfl HR.out) rfl ⟨rfl, HB.out⟩
  · have hpos : 0 < l.length := List.length_pos_iff.2 hne
    obtain ⟨b, o, rfl, hc⟩ := h.strs hne
    have x0 := hc 0 hpos
    rw [Nat.add_zero] at x0
    have hbl : b < w.heap.size := block_lt_of_cell x0
    have y0 : (w.alloc (.cells #[.string ⟨#[]⟩, .int .i64 0, .int .i64 0, .int .i64 0, .int .i64 0, .int .i64 0, .bool false] 25)).cell? ⟨b, o, none⟩ = some (txt l[0]) := cell_turn x0 (HB0.out.block b hbl)
    have HF := hid (rfind_any l[0] · (ht _ (List.getElem_mem hpos)))
    have HN := hid (@chk_not l hpos)
    have HBd := hid (@chk_bad l hpos)
    have HOk := hid (@chk_ok l hpos)
    have HO := hid (ok_spec (great l[0]))
    have hz1 : 1 ≤ (l.length : Int) := by omega
    have hz2 : (l.length : Int) ≤ 200 := by omega
    have hz0 : ((l.length : Int) == 0) = false := by rw [beq_eq_false_iff_ne]; omega
    clear hc h ht hne x0 hl
    generalize known (great l[0]) = kn at *
    generalize spec (great l[0]) = s at *
    generalize l[0] = t at *
    generalize chk l = C at *
    obtain ⟨nm, le, mo, fi, la, st, wr⟩ := s
    go_enter Try.func15, Try.ntmps15
    go_wp2_with fail
    refine (HF.out _).mono ?_
    rintro _ W1 ⟨rfl, HW1⟩
    have HA1 : Hid (W1.heap[w.heap.size]? = some (.cells zeroSp.cs 25 (0, 0))) := (HW1.out.block w.heap.size (by simp)).trans HA0.out
    have HB1 : Hid (Below w.heap.size w W1) := HB0.out.trans (HW1.out.mono (by simp))
    have hs1 : w.heap.size + 1 ≤ W1.heap.size := by have := HW1.out.size; simpa using this
    clear HW1 HF HA0 HB0
    have HA2 : Hid ((W1.alloc (.cells #[txt nm, .int .i64 le, .int .i64 mo, .int .i64 fi, .int .i64 la, .int .i64 st, .bool wr] 25)).heap[w.heap.size]? = some (.cells zeroSp.cs 25 (0, 0))) := (heap_alloc_old _ _ (by omega)).trans HA1.out
    have HS2 := hid (heap_alloc_new W1 (.cells #[txt nm, .int .i64 le, .int .i64 mo, .int .i64 fi, .int .i64 la, .int .i64 st, .bool wr] 25))
    have HB2 := hid (HB1.out.trans ((below_alloc W1 (.cells #[txt nm, .int .i64 le, .int .i64 mo, .int .i64 fi, .int .i64 la, .int .i64 st, .bool wr] 25)).mono (by omega)))
    simp only [Sp.cs] at ⊢
    cases kn with
    | false =>
      have hC := HN.out rfl
      obtain rfl : S = zeroSp := by rw [HS.out, hC]
      obtain rfl : E = 120 := by rw [HE.out, hC]
      have HR := hid (setRow_heap _ w.heap.size _ zeroSp.cs _ _ HA2.out)
      have HB := hid (below_setRow HB2.out (Nat.le_refl _) zeroSp.cs)
      clear hC HBd HOk HN HO
      go_wp2_with (refine Go.wpList_store_rowTo rfl 25 _ _ rfl rfl w.heap.size zeroSp.cs rfl rfl 25 zeroSp.cs HA2.out (info_sp _) rfl (ones_sp _) (Hid.out ?_))
      refine hid ?_
      go_wp2_with fail
      exact bodyPost_ret (v := .tuple #[.agg zeroSp.cs, .int .i64 120]) (ret_sp2 rfl rfl rfl HR.out) rfl ⟨rfl, HB.out⟩
    | true =>
      have HBd2 := hid (HBd.out rfl)
      have HOk2 := hid (HOk.out rfl)
      have HFs : Hid (fitsM ⟨nm, le, mo, fi, la, st, wr⟩ (l.length : Int) = (decide (le ≤ (l.length : Int) - 1) && decide ((l.length : Int) - 1 ≤ mo) && (decide (la ≠ -1) || decide (((l.length : Int) - fi).tmod st = 0)))) := rfl
      obtain ⟨b1, b2, b3, b4, hk⟩ := OkS.of HO.out
      clear HBd HOk HN HO
      by_cases hle : (l.length : Int) - 1 < le
      · clear hk
        have hC := HBd2.out (by rw [HFs.out, decide_eq_false (by omega)]; rfl)
        obtain rfl : S = zeroSp := by rw [HS.out, hC]
        obtain rfl : E = 121 := by rw [HE.out, hC]
        have HR := hid (setRow_heap _ w.heap.size _ zeroSp.cs _ _ HA2.out)
        have HB := hid (below_setRow HB2.out (Nat.le_refl _) zeroSp.cs)
        clear hC HBd2 HOk2 HFs
        go_wp2_with (refine Go.wpList_store_rowTo rfl 25 _ _ rfl rfl w.heap.size zeroSp.cs rfl rfl 25 zeroSp.cs HA2.out (info_sp _) rfl (ones_sp _) (Hid.out ?_))
        refine hid ?_
        go_wp2_with fail
        exact bodyPost_ret (v := .tuple #[.agg zeroSp.cs, .int .i64 121]) (ret_sp2 rfl rfl rfl HR.out) rfl ⟨rfl, HB.out⟩
      by_cases hmo : mo < (l.length : Int) - 1
      · clear hk
        have hC := HBd2.out (by rw [HFs.out, decide_eq_false (p := (l.length : Int) - 1 ≤ mo) (by omega)]; simp)
        obtain rfl : S = zeroSp := by rw [HS.out, hC]
        obtain rfl : E = 121 := by rw [HE.out, hC]
        have HR := hid (setRow_heap _ w.heap.size _ zeroSp.cs _ _ HA2.out)
        have HB := hid (below_setRow HB2.out (Nat.le_refl _) zeroSp.cs)
        clear hC HBd2 HOk2 HFs
        go_wp2_with (refine Go.wpList_store_rowTo rfl 25 _ _ rfl rfl w.heap.size zeroSp.cs rfl rfl 25 zeroSp.cs HA2.out (info_sp _) rfl (ones_sp _) (Hid.out ?_))
        refine hid ?_
        go_wp2_with fail
        exact bodyPost_ret (v := .tuple #[.agg zeroSp.cs, .int .i64 121]) (ret_sp2 rfl rfl rfl HR.out) rfl ⟨rfl, HB.out⟩
      have HFt : Hid (fitsM ⟨nm, le, mo, fi, la, st, wr⟩ (l.length : Int) = (decide (la ≠ -1) || decide (((l.length : Int) - fi).tmod st = 0))) := by
        rw [Hid, HFs.out, decide_eq_true (p := le ≤ (l.length : Int) - 1) (by omega), decide_eq_true (p := (l.length : Int) - 1 ≤ mo) (by omega)]; rfl
      by_cases hla : la = -1
      · have hfi : fi = 1 ∧ (st = 1 ∨ st = 2) := by
          rcases hk with ⟨_, h, _⟩ | ⟨h, _, ⟨h', _⟩ | ⟨_, h'⟩ | ⟨_, h'⟩⟩
          · omega
          · omega
          · exact ⟨h, .inl h'⟩
          · exact ⟨h, .inr h'⟩
        obtain ⟨hf1, hst⟩ := hfi
        clear hk
        subst hla hf1
        rcases hst with rfl | rfl
        · have hr : ((l.length : Int) - 1).tmod 1 = 0 := Int.tmod_one _
          have hC := HOk2.out (by rw [HFt.out, hr]; rfl)
          obtain rfl : S = ⟨nm, le, mo, 1, -1, 1, wr⟩ := by rw [HS.out, hC]
          obtain rfl : E = 0 := by rw [HE.out, hC]
          have HR := hid (setRow_heap _ w.heap.size _ (Sp.cs ⟨nm, le, mo, 1, -1, 1, wr⟩) _ _ HA2.out)
          have HB := hid (below_setRow HB2.out (Nat.le_refl _) (Sp.cs ⟨nm, le, mo, 1, -1, 1, wr⟩))
          clear hC HBd2 HOk2 HFs
          go_wp2_with first | (refine Go.wpList_load_row rfl 25 _ rfl W1.heap.size rfl 25 (Sp.cs ⟨nm, le, mo, 1, -1, 1, wr⟩) (0, 0) _ HS2.out Try.underlying25 rfl (info_sp _) ?_) | (refine Go.wpList_store_rowTo rfl 25 _ _ rfl rfl w.heap.size (Sp.cs ⟨nm, le, mo, 1, -1, 1, wr⟩) rfl rfl 25 zeroSp.cs HA2.out (info_sp _) rfl (ones_sp _) (Hid.out ?_))
          refine hid ?_
          go_wp2_with fail
          exact bodyPost_ret (v := .tuple #[.agg (Sp.cs ⟨nm, le, mo, 1, -1, 1, wr⟩), .int .i64 0]) (ret_sp2 rfl rfl rfl HR.out) rfl ⟨rfl, HB.out⟩
        · by_cases hr : ((l.length : Int) - 1).tmod 2 = 0
          · have hC := HOk2.out (by rw [HFt.out, hr]; rfl)
            obtain rfl : S = ⟨nm, le, mo, 1, -1, 2, wr⟩ := by rw [HS.out, hC]
            obtain rfl : E = 0 := by rw [HE.out, hC]
            have HR := hid (setRow_heap _ w.heap.size _ (Sp.cs ⟨nm, le, mo, 1, -1, 2, wr⟩) _ _ HA2.out)
            have HB := hid (below_setRow HB2.out (Nat.le_refl _) (Sp.cs ⟨nm, le, mo, 1, -1, 2, wr⟩))
            clear hC HBd2 HOk2 HFs
            go_wp2_with first | (refine Go.wpList_load_row rfl 25 _ rfl W1.heap.size rfl 25 (Sp.cs ⟨nm, le, mo, 1, -1, 2, wr⟩) (0, 0) _ HS2.out Try.underlying25 rfl (info_sp _) ?_) | (refine Go.wpList_store_rowTo rfl 25 _ _ rfl rfl w.heap.size (Sp.cs ⟨nm, le, mo, 1, -1, 2, wr⟩) rfl rfl 25 zeroSp.cs HA2.out (info_sp _) rfl (ones_sp _) (Hid.out ?_))
            refine hid ?_
            go_wp2_with fail
            exact bodyPost_ret (v := .tuple #[.agg (Sp.cs ⟨nm, le, mo, 1, -1, 2, wr⟩), .int .i64 0]) (ret_sp2 rfl rfl rfl HR.out) rfl ⟨rfl, HB.out⟩
          · have hC := HBd2.out (by rw [HFt.out, decide_eq_false hr]; rfl)
            obtain ⟨r, hrr⟩ : ∃ r, ((l.length : Int) - 1).tmod 2 = r := ⟨_, rfl⟩
            have hrb : (r != 0) = true := by rw [← hrr]; exact bne_iff_ne.2 hr
            clear hr HFt
            obtain rfl : S = zeroSp := by rw [HS.out, hC]
            obtain rfl : E = 121 := by rw [HE.out, hC]
            have HR := hid (setRow_heap _ w.heap.size _ zeroSp.cs _ _ HA2.out)
            have HB := hid (below_setRow HB2.out (Nat.le_refl _) zeroSp.cs)
            clear hC HBd2 HOk2 HFs
            go_wp2_with (refine Go.wpList_store_rowTo rfl 25 _ _ rfl rfl w.heap.size zeroSp.cs rfl rfl 25 zeroSp.cs HA2.out (info_sp _) rfl (ones_sp _) (Hid.out ?_))
            refine hid ?_
            go_wp2_with fail
            exact bodyPost_ret (v := .tuple #[.agg zeroSp.cs, .int .i64 121]) (ret_sp2 rfl rfl rfl HR.out) rfl ⟨rfl, HB.out⟩
      · have hlb : (la == -1) = false := beq_eq_false_iff_ne.2 hla
        clear hk
        have hC := HOk2.out (by rw [HFt.out, decide_eq_true hla]; rfl)
        obtain rfl : S = ⟨nm, le, mo, fi, la, st, wr⟩ := by rw [HS.out, hC]
        obtain rfl : E = 0 := by rw [HE.out, hC]
        have HR := hid (setRow_heap _ w.heap.size _ (Sp.cs ⟨nm, le, mo, fi, la, st, wr⟩) _ _ HA2.out)
        have HB := hid (below_setRow HB2.out (Nat.le_refl _) (Sp.cs ⟨nm, le, mo, fi, la, st, wr⟩))
        clear hC HBd2 HOk2 HFs
        go_wp2_with first | (refine Go.wpList_load_row rfl 25 _ rfl W1.heap.size rfl 25 (Sp.cs ⟨nm, le, mo, fi, la, st, wr⟩) (0, 0) _ HS2.out Try.underlying25 rfl (info_sp _) ?_) | (refine Go.wpList_store_rowTo rfl 25 _ _ rfl rfl w.heap.size (Sp.cs ⟨nm, le, mo, fi, la, st, wr⟩) rfl rfl 25 zeroSp.cs HA2.out (info_sp _) rfl (ones_sp _) (Hid.out ?_))
        refine hid ?_
        go_wp2_with fail
        exact bodyPost_ret (v := .tuple #[.agg (Sp.cs ⟨nm, le, mo, fi, la, st, wr⟩), .int .i64 0]) (ret_sp2 rfl rfl rfl HR.out) rfl ⟨rfl, HB.out⟩

end Go.Proofs.Ytndmhfhihajbdaa
