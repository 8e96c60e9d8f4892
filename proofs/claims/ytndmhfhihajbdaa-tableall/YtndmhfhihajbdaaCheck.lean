/- Check: the program's and the document's. -/
import Derived.Test.YtndmhfhihajbdaaRFind
namespace Go.Proofs.Ytndmhfhihajbdaa
open Go.RowKit

/-- may a command have so many arguments, its name being one of them -/
def fitsM (s : Sp) (n : Int) : Bool := decide (s.le ≤ n - 1) && decide (n - 1 ≤ s.mo) && (decide (s.la ≠ -1) || decide ((n - s.fi).tmod s.st = 0))
/-- what Check tells -/
def chk : Row → Sp × Int
  | [] => (zeroSp, 120)
  | n :: r => if known (great n) then (if fitsM (spec (great n)) ((n :: r).length : Int) then (spec (great n), 0) else (zeroSp, 121)) else (zeroSp, 120)
/-- how commands are -/
def okB (s : Sp) : Bool := decide (0 ≤ s.le ∧ s.le ≤ 31 ∧ 0 ≤ s.mo ∧ s.mo ≤ 31) && ((decide (s.fi = 0 ∧ s.la = 0 ∧ s.st = 0)) || (decide (s.fi = 1 ∧ 1 ≤ s.le) && (decide (s.la = 1 ∧ s.st = 1) || decide (s.la = -1 ∧ (s.st = 1 ∨ s.st = 2)))))
theorem ok_rows : rowsL.all okB = true := by decide
theorem ok_spec (g : Nm) : okB (spec g) = true := by
  rw [spec_eq]
  exact List.all_eq_true.1 ok_rows _ (List.getElem_mem _)
structure OkS (le mo fi la st : Int) : Prop where
  le0 : 0 ≤ le
  le9 : le ≤ 31
  mo0 : 0 ≤ mo
  mo9 : mo ≤ 31
  kinds : (fi = 0 ∧ la = 0 ∧ st = 0) ∨ (fi = 1 ∧ 1 ≤ le ∧ ((la = 1 ∧ st = 1) ∨ (la = -1 ∧ st = 1) ∨ (la = -1 ∧ st = 2)))
theorem OkS.of {nm : Nm} {le mo fi la st : Int} {wr : Bool} (h : okB ⟨nm, le, mo, fi, la, st, wr⟩ = true) : OkS le mo fi la st := by
  simp only [okB, Bool.and_eq_true, Bool.or_eq_true, decide_eq_true_eq] at h
  obtain ⟨⟨h1, h2, h3, h4⟩, h5⟩ := h
  refine ⟨h1, h2, h3, h4, ?_⟩
  rcases h5 with h5 | ⟨⟨h6, h7⟩, h8 | ⟨h8, h9 | h9⟩⟩
  · exact .inl h5
  · exact .inr ⟨h6, h7, .inl h8⟩
  · exact .inr ⟨h6, h7, .inr (.inl ⟨h8, h9⟩)⟩
  · exact .inr ⟨h6, h7, .inr (.inr ⟨h8, h9⟩)⟩
set_option maxHeartbeats 4000000 in
set_option maxRecDepth 100000 in
theorem fits_any (nm : Nm) (le mo fi la st : Int) (wr : Bool) (hs : OkS le mo fi la st) (n : Int) (h1 : 1 ≤ n) (h2 : n ≤ 200) (w : World) :
    Calls Try.prog 23 #[.agg #[txt nm, .int .i64 le, .int .i64 mo, .int .i64 fi, .int .i64 la, .int .i64 st, .bool wr], .int .i64 n] w fun e w' => e = .returned (.bool (fitsM ⟨nm, le, mo, fi, la, st, wr⟩ n)) ∧ Hid (Below w.heap.size w w') := by
  obtain ⟨V, hV⟩ : ∃ V, V = fitsM ⟨nm, le, mo, fi, la, st, wr⟩ n := ⟨_, rfl⟩
  rw [← hV]
  obtain ⟨b1, b2, b3, b4, hk⟩ := hs
  have HB := hid (below_alloc w (.cells #[txt nm, .int .i64 le, .int .i64 mo, .int .i64 fi, .int .i64 la, .int .i64 st, .bool wr] 25))
  by_cases hle : n - 1 < le
  · obtain rfl : V = false := by
      rw [hV, fitsM, decide_eq_false (by show ¬ le ≤ n - 1; omega)]; rfl
    clear hV hk
    go_enter Try.func23, Try.ntmps23
    go_wp2_with fail
    go_ret
    exact ⟨rfl, HB.out⟩
  by_cases hmo : mo < n - 1
  · obtain rfl : V = false := by
      have : decide (n - 1 ≤ mo) = false := decide_eq_false (by omega)
      rw [hV]; simp only [fitsM]; rw [this]; simp
    clear hV hk
    go_enter Try.func23, Try.ntmps23
    go_wp2_with fail
    go_ret
    exact ⟨rfl, HB.out⟩
  have hV2 : V = (decide (la ≠ -1) || decide ((n - fi).tmod st = 0)) := by
    rw [hV, fitsM, decide_eq_true (by show le ≤ n - 1; omega), decide_eq_true (by show n - 1 ≤ mo; omega)]; rfl
  clear hV
  by_cases hla : la = -1
  · subst hla
    have hfi : fi = 1 ∧ (st = 1 ∨ st = 2) := by
      rcases hk with ⟨_, h, _⟩ | ⟨h, _, ⟨h', _⟩ | ⟨_, h'⟩ | ⟨_, h'⟩⟩
      · omega
      · omega
      · exact ⟨h, .inl h'⟩
      · exact ⟨h, .inr h'⟩
    obtain ⟨rfl, hst⟩ := hfi
    clear hk
    obtain ⟨r, hr⟩ : ∃ r, (n - 1).tmod st = r := ⟨_, rfl⟩
    have hV3 : V = (r == 0) := by
      rw [hV2, hr]
      by_cases h : r = 0
      · subst h; rfl
      · have h' : (r == 0) = false := beq_eq_false_iff_ne.2 h
        rw [h', decide_eq_false h]; rfl
    clear hV2
    rcases hst with rfl | rfl
    · go_enter Try.func23, Try.ntmps23
      go_wp2_with fail
      go_ret
      exact ⟨rfl, HB.out⟩
    · go_enter Try.func23, Try.ntmps23
      go_wp2_with fail
      go_ret
      exact ⟨rfl, HB.out⟩
  · obtain rfl : V = true := by rw [hV2, decide_eq_true hla]; rfl
    have hlb : (la != -1) = true := bne_iff_ne.2 hla
    clear hV2 hk
    go_enter Try.func23, Try.ntmps23
    go_wp2_with fail
    go_ret
    exact ⟨rfl, HB.out⟩
/-- texts that are no longer than a machine's -/
def Txs (l : Row) : Prop := ∀ t ∈ l, t.length ≤ 9223372036854775807
theorem chk_nil : chk [] = (zeroSp, 120) := rfl
theorem chk_not {l : Row} (h : 0 < l.length) (hk : known (great l[0]) = false) : chk l = (zeroSp, 120) := by
  cases l with
  | nil => simp at h
  | cons n r => simp only [List.getElem_cons_zero] at hk; simp [chk, hk]
theorem chk_bad {l : Row} (h : 0 < l.length) (hk : known (great l[0]) = true) (hf : fitsM (spec (great l[0])) l.length = false) : chk l = (zeroSp, 121) := by
  cases l with
  | nil => simp at h
  | cons n r => simp only [List.getElem_cons_zero] at hk hf; rw [chk, if_pos hk, if_neg (by rw [hf]; decide)]
theorem chk_ok {l : Row} (h : 0 < l.length) (hk : known (great l[0]) = true) (hf : fitsM (spec (great l[0])) l.length = true) : chk l = (spec (great l[0]), 0) := by
  cases l with
  | nil => simp at h
  | cons n r => simp only [List.getElem_cons_zero] at hk hf ⊢; rw [chk, if_pos hk, if_pos hf]
set_option maxHeartbeats 8000000 in
set_option maxRecDepth 100000 in
/-- Check -/
theorem check_any (p : Option Addr) (c : Nat) (l : Row) (w : World) (h : Rd w p c l) (hl : l.length ≤ 200) (ht : Txs l) :
    Calls Try.prog 14 #[.slice p l.length c] w fun e w' => e = .returned (.tuple #[.agg (chk l).1.cs, .int .i64 (chk l).2]) ∧ Hid (Below w.heap.size w w') := by
  obtain ⟨S, hS⟩ : ∃ S, S = (chk l).1 := ⟨_, rfl⟩
  obtain ⟨E, hE⟩ : ∃ E, E = (chk l).2 := ⟨_, rfl⟩
  rw [← hS, ← hE]
  have HS := hid hS
  have HE := hid hE
  clear hS hE
  have HA0 := hid (heap_alloc_new w (.cells zeroSp.cs 25))
  have HB0 := hid (below_alloc w (.cells zeroSp.cs 25))
  by_cases hne : l = []
  · subst hne
    obtain rfl : S = zeroSp := HS.out
    obtain rfl : E = 120 := HE.out
    have HR := hid (setRow_heap _ w.heap.size _ zeroSp.cs _ _ HA0.out)
    have HB := hid (below_setRow HB0.out (Nat.le_refl _) zeroSp.cs)
    go_enter Try.func14, Try.ntmps14
    go_wp2_with (refine Go.wpList_store_rowTo rfl 25 _ _ rfl rfl w.heap.size zeroSp.cs rfl rfl 25 zeroSp.cs HA0.out (info_sp _) rfl (ones_sp _) (Hid.out ?_))
    refine hid ?_
    go_wp2_with fail
    exact bodyPost_ret (v := .tuple #[.agg zeroSp.cs, .int .i64 120]) (ret_sp2 rfl rfl rfl HR.out) rfl ⟨rfl, HB.out⟩
  · have hpos : 0 < l.length := List.length_pos_iff.2 hne
    obtain ⟨b, o, rfl, hc⟩ := h.strs hne
    have x0 := hc 0 hpos
    rw [Nat.add_zero] at x0
    have hbl : b < w.heap.size := block_lt_of_cell x0
    have y0 : (w.alloc (.cells #[.string ⟨#[]⟩, .int .i64 0, .int .i64 0, .int .i64 0, .int .i64 0, .int .i64 0, .bool false] 25)).cell? ⟨b, o, none⟩ = some (txt l[0]) := cell_turn x0 (HB0.out.block b hbl)
    have HF := hid (find_any l[0] · (ht _ (List.getElem_mem hpos)))
    have HN := hid (@chk_not l hpos)
    have HBd := hid (@chk_bad l hpos)
    have HOk := hid (@chk_ok l hpos)
    have HO := hid (ok_spec (great l[0]))
    have hz1 : 1 ≤ (l.length : Int) := by omega
    have hz2 : (l.length : Int) ≤ 200 := by omega
    have hz0 : ((l.length : Int) == 0) = false := by rw [beq_eq_false_iff_ne]; omega
    clear hc h ht hne x0 hl
    generalize known (great l[0]) = kn at *
    generalize spec (great l[0]) = s at *
    generalize l[0] = t at *
    generalize chk l = C at *
    obtain ⟨nm, le, mo, fi, la, st, wr⟩ := s
    go_enter Try.func14, Try.ntmps14
    go_wp2_with fail
    refine (HF.out _).mono ?_
    rintro _ W1 ⟨rfl, HW1⟩
    have HA1 : Hid (W1.heap[w.heap.size]? = some (.cells zeroSp.cs 25 (0, 0))) := (HW1.out.block w.heap.size (by simp)).trans HA0.out
    have HB1 : Hid (Below w.heap.size w W1) := HB0.out.trans (HW1.out.mono (by simp))
    have hs1 : w.heap.size + 1 ≤ W1.heap.size := by have := HW1.out.size; simpa using this
    clear HW1 HF HA0 HB0
    have HA2 : Hid ((W1.alloc (.cells #[txt nm, .int .i64 le, .int .i64 mo, .int .i64 fi, .int .i64 la, .int .i64 st, .bool wr] 25)).heap[w.heap.size]? = some (.cells zeroSp.cs 25 (0, 0))) := (heap_alloc_old _ _ (by omega)).trans HA1.out
    have HS2 := hid (heap_alloc_new W1 (.cells #[txt nm, .int .i64 le, .int .i64 mo, .int .i64 fi, .int .i64 la, .int .i64 st, .bool wr] 25))
    have HB2 := hid (HB1.out.trans ((below_alloc W1 (.cells #[txt nm, .int .i64 le, .int .i64 mo, .int .i64 fi, .int .i64 la, .int .i64 st, .bool wr] 25)).mono (by omega)))
    simp only [Sp.cs] at ⊢
    cases kn with
    | false =>
      have hC := HN.out rfl
      obtain rfl : S = zeroSp := by rw [HS.out, hC]
      obtain rfl : E = 120 := by rw [HE.out, hC]
      have HR := hid (setRow_heap _ w.heap.size _ zeroSp.cs _ _ HA2.out)
      have HB := hid (below_setRow HB2.out (Nat.le_refl _) zeroSp.cs)
      clear hC HBd HOk HN HO
      go_wp2_with (refine Go.wpList_store_rowTo rfl 25 _ _ rfl rfl w.heap.size zeroSp.cs rfl rfl 25 zeroSp.cs HA2.out (info_sp _) rfl (ones_sp _) (Hid.out ?_))
      refine hid ?_
      go_wp2_with fail
      exact bodyPost_ret (v := .tuple #[.agg zeroSp.cs, .int .i64 120]) (ret_sp2 rfl rfl rfl HR.out) rfl ⟨rfl, HB.out⟩
    | true =>
      have HBd2 := hid (HBd.out rfl)
      have HOk2 := hid (HOk.out rfl)
      clear HBd HOk
      go_wp2_with fail
      refine (fits_any nm le mo fi la st wr (OkS.of HO.out) l.length hz1 hz2 _).mono ?_
      rintro _ W3 ⟨rfl, HW3⟩
      have HA3 := hid ((HW3.out.block w.heap.size (by simp; omega)).trans HA2.out)
      have HS3 := hid ((HW3.out.block W1.heap.size (by simp)).trans HS2.out)
      have HB3 := hid (HB2.out.trans (HW3.out.mono (by simp; omega)))
      clear HW3 HA2 HS2 HB2 HN HO
      generalize fitsM ⟨nm, le, mo, fi, la, st, wr⟩ (l.length : Int) = F at *
      cases F with
      | false =>
        have hC := HBd2.out rfl
        obtain rfl : S = zeroSp := by rw [HS.out, hC]
        obtain rfl : E = 121 := by rw [HE.out, hC]
        have HR := hid (setRow_heap _ w.heap.size _ zeroSp.cs _ _ HA3.out)
        have HB := hid (below_setRow HB3.out (Nat.le_refl _) zeroSp.cs)
        clear hC HBd2 HOk2
        go_wp2_with (refine Go.wpList_store_rowTo rfl 25 _ _ rfl rfl w.heap.size zeroSp.cs rfl rfl 25 zeroSp.cs HA3.out (info_sp _) rfl (ones_sp _) (Hid.out ?_))
        refine hid ?_
        go_wp2_with fail
        exact bodyPost_ret (v := .tuple #[.agg zeroSp.cs, .int .i64 121]) (ret_sp2 rfl rfl rfl HR.out) rfl ⟨rfl, HB.out⟩
      | true =>
        have hC := HOk2.out rfl
        obtain rfl : S = ⟨nm, le, mo, fi, la, st, wr⟩ := by rw [HS.out, hC]
        obtain rfl : E = 0 := by rw [HE.out, hC]
        have HR := hid (setRow_heap _ w.heap.size _ (Sp.cs ⟨nm, le, mo, fi, la, st, wr⟩) _ _ HA3.out)
        have HB := hid (below_setRow HB3.out (Nat.le_refl _) (Sp.cs ⟨nm, le, mo, fi, la, st, wr⟩))
        clear hC HBd2 HOk2
        go_wp2_with first | (refine Go.wpList_load_row rfl 25 _ rfl W1.heap.size rfl 25 (Sp.cs ⟨nm, le, mo, fi, la, st, wr⟩) (0, 0) _ HS3.out Try.underlying25 rfl (info_sp _) ?_) | (refine Go.wpList_store_rowTo rfl 25 _ _ rfl rfl w.heap.size (Sp.cs ⟨nm, le, mo, fi, la, st, wr⟩) rfl rfl 25 zeroSp.cs HA3.out (info_sp _) rfl (ones_sp _) (Hid.out ?_))
        refine hid ?_
        go_wp2_with fail
        exact bodyPost_ret (v := .tuple #[.agg (Sp.cs ⟨nm, le, mo, fi, la, st, wr⟩), .int .i64 0]) (ret_sp2 rfl rfl rfl HR.out) rfl ⟨rfl, HB.out⟩

end Go.Proofs.Ytndmhfhihajbdaa
