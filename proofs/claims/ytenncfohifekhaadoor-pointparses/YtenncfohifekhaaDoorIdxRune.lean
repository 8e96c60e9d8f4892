/- strings.IndexRune in the text of both signs, at every rune. -/
import Derived.Test.YtenncfohifekhaaDoorShelfS
import Derived.Test.YtenncfohifekhaaDoorCore
import Derived.Test.YtenncfohifekhaaDoorParseP
import Derived.Laws.Strings2
import Derived.Laws.Runes
import Derived.Laws.RangeAny
import Derived.Lib.OthersKept
import Derived.Deep.LoopGhost
import Derived.Deep.QuietTactic
import Derived.WalkMore
namespace Go.Proofs.YtenncfohifekhaaDoor
open Go.RowKit

theorem iter_below (w : World) (s : ByteArray) (i : Nat) : Below w.heap.size w (w.iter s i) := below_alloc w _
theorem below_iterAt {n : Nat} {w W : World} (h : Below n w W) (k : Nat) (hk : n ≤ k) (s : ByteArray) (i : Nat) : Below n w (W.iterAt k s i) :=
  ⟨h.os, h.tape, h.output, by simpa [World.iterAt] using h.size, fun j hj => by
    simp only [World.iterAt]
    rw [Array.getElem?_setIfInBounds_ne (by omega)]
    exact h.block j hj⟩
theorem below_drewN (w : World) (k : Nat) : Below w.heap.size w (w.drewN k) := ⟨rfl, rfl, rfl, Nat.le_refl _, fun _ _ => rfl⟩
/-- the text of both signs -/
def sgs : ByteArray := ⟨#[43, 45]⟩
set_option maxHeartbeats 1000000 in
set_option maxRecDepth 100000 in
/-- the rune of an error -/
theorem idx_err (w : World) : Calls Tryd.prog 37 #[.string sgs, .int .i32 65533] w fun e w' => e = .returned (.int .i64 (-1)) ∧ Hid (Below w.heap.size w w') := by
  obtain ⟨S, hS⟩ : ∃ S : ByteArray, S = sgs := ⟨_, rfl⟩
  have HZ : Hid (S.size = 2) := by rw [hS]; rfl
  have HT : Hid (∀ (i : Nat) (h : i < S.size), (S[i]'h).toNat < 128) := fun i h => by
    subst hS
    have h2 : i < 2 := h
    rcases (show i = 0 ∨ i = 1 by omega) with rfl | rfl
    · show (43 : UInt8).toNat < 128; decide
    · show (45 : UInt8).toNat < 128; decide
  rw [← hS]
  clear hS
  go_enter Tryd.func37, Tryd.ntmps37
  go_wp2_with fail
  go_loopg [5, 6] S.size (fun g _ _ wx => ∃ (i : Nat), i + g = S.size ∧ wx.heap[w.heap.size]? = some (.stringIter S i) ∧ Hid (Below w.heap.size w wx))
  case atStart => exact ⟨0, by omega, World.iter_heap _ _ _, iter_below _ _ _⟩
  case round =>
    obtain ⟨i, hig, hit, HB⟩ := hrel
    have hblt : w.heap.size < wr.heap.size := (Array.getElem?_eq_some_iff.1 hit).1
    have Hg := hid hig
    cases gk with
    | zero =>
      have hnx := fun ty => Lib.run_next_end_at (P := Tryd.prog) wr w.heap.size S i ty hit (by omega)
      clear hit hig
      go_wp2_with fail
      go_ret
      exact ⟨rfl, HB.out⟩
    | succ g =>
      have hi : i < S.size := by omega
      have hx := HT.out i hi
      have hnx := fun ty => Lib.run_next_ascii_at (P := Tryd.prog) wr w.heap.size S i ty hit hi hx
      have HI2 := hid (Lib.iterAt_heap wr w.heap.size S i (i + 1) hit)
      have HB2 := hid (below_iterAt HB.out w.heap.size (Nat.le_refl _) S (i + 1))
      obtain ⟨X, hX⟩ : ∃ X : Int, X = ((S[i]'hi).toNat : Int) := ⟨_, rfl⟩
      rw [← hX] at hnx
      have hx1 : (X == 65533) = false := beq_eq_false_iff_ne.2 (by omega)
      have hx2 : X ≠ 65533 := by omega
      clear hX hx hit hig
      go_wp2_with fail
      go_roundg g
      case measure => omega
      case rel => exact ⟨i + 1, by have := Hg.out; omega, HI2.out, HB2.out⟩
set_option maxHeartbeats 1000000 in
set_option maxRecDepth 100000 in
/-- a rune that is none -/
theorem idx_bad (r : Int) (w : World) (h0 : 128 ≤ r) (h1 : Lib.validRune r = false) : Calls Tryd.prog 37 #[.string sgs, .int .i32 r] w fun e w' => e = .returned (.int .i64 (-1)) ∧ Hid (Below w.heap.size w w') := by
  have hne : r ≠ 65533 := fun h => by subst h; exact absurd h1 (by decide)
  have hb : (r == 65533) = false := beq_eq_false_iff_ne.2 hne
  have HV := hid (Tryd.utf8_ValidRune r w)
  rw [h1] at HV
  obtain ⟨S, hS⟩ : ∃ S : ByteArray, S = sgs := ⟨_, rfl⟩
  rw [← hS]
  clear hS h1
  go_enter Tryd.func37, Tryd.ntmps37
  go_wp2_with fail
  refine HV.out.mono ?_; rintro e w1 ⟨rfl, rfl⟩
  go_wp2_with fail
  go_ret
  exact ⟨rfl, Below.refl _ _⟩
theorem enc_run (r : Int) (W : World) : (convert 21 9 (.int .i32 r)).run Tryd.prog W = .ok (.string (Utf8.encode r)) W := by
  go_simp

theorem valid_eq (r : Int) : Utf8.valid r = Lib.validRune r := by
  unfold Utf8.valid Lib.validRune
  apply Bool.eq_iff_iff.2
  simp only [Bool.or_eq_true, Bool.and_eq_true, decide_eq_true_eq]
  omega
theorem enc_two (r : Int) (h0 : 128 ≤ r) (h1 : r < 2048) : ∃ a b : UInt8, Utf8.encode r = ⟨#[a, b]⟩ ∧ 128 ≤ b.toNat := by
  have hv : Utf8.valid r = true := by rw [valid_eq]; simp [Lib.validRune]; omega
  refine ⟨UInt8.ofNat (192 + r.toNat / 64), UInt8.ofNat (128 + r.toNat % 64), ?_, ?_⟩
  · unfold Utf8.encode
    simp only [hv, if_true]
    rw [if_neg (by omega), if_pos (by omega)]
  · rw [UInt8.toNat_ofNat']
    omega
theorem enc_more (r : Int) (h0 : 2048 ≤ r) (hv : Lib.validRune r = true) : 3 ≤ (Utf8.encode r).size ∧ (Utf8.encode r).size ≤ 4 := by
  have hv : Utf8.valid r = true := by rw [valid_eq]; exact hv
  unfold Utf8.encode
  simp only [hv, if_true]
  rw [if_neg (by omega), if_neg (by omega)]
  split <;> simp [ByteArray.size]
set_option maxHeartbeats 1000000 in
set_option maxRecDepth 100000 in
theorem idx_more (r : Int) (w : World) (h0 : 2048 ≤ r) (hne : r ≠ 65533) (hv : Lib.validRune r = true) : Calls Tryd.prog 37 #[.string sgs, .int .i32 r] w fun e w' => e = .returned (.int .i64 (-1)) ∧ Hid (Below w.heap.size w w') := by
  have hb : (r == 65533) = false := beq_eq_false_iff_ne.2 hne
  have HV := hid (Tryd.utf8_ValidRune r w)
  rw [hv] at HV
  have er := enc_run r
  obtain ⟨e0, e1⟩ := enc_more r h0 hv
  generalize Utf8.encode r = E at *
  obtain ⟨S, hS⟩ : ∃ S : ByteArray, S = sgs := ⟨_, rfl⟩
  have hz : S.size = 2 := by rw [hS]; rfl
  rw [← hS]
  clear hS hv
  go_enter Tryd.func37, Tryd.ntmps37
  go_wp2_with fail
  refine HV.out.mono ?_; rintro e w1 ⟨rfl, rfl⟩
  have f0 : (3 : Int) ≤ (E.size : Int) := by omega
  have f1 : (E.size : Int) ≤ 4 := by omega
  go_wp2_with fail
  go_step3
  go_wp2_with fail
  go_loopw [9, 10, 11, 12] (fun v9 _ _ _ W => v9 = .int .i64 ((E.size : Int) - 1) ∧ W = w1) (fun _ _ _ _ _ => 0)
  case atStart => exact ⟨rfl, rfl⟩
  case round =>
    obtain ⟨rfl, rfl⟩ := hrel
    go_wp2_with fail
    rw [Exit.noGoto_ret]
    go_ret
    exact ⟨rfl, Below.refl _ _⟩
set_option maxHeartbeats 1000000 in
set_option maxRecDepth 100000 in
theorem idx_two (r : Int) (w : World) (h0 : 128 ≤ r) (h1 : r < 2048) : Calls Tryd.prog 37 #[.string sgs, .int .i32 r] w fun e w' => e = .returned (.int .i64 (-1)) ∧ Hid (Below w.heap.size w w') := by
  have hb : (r == 65533) = false := beq_eq_false_iff_ne.2 (by omega)
  have HV := hid (Tryd.utf8_ValidRune r w)
  rw [show Lib.validRune r = true by simp [Lib.validRune]; omega] at HV
  have er := enc_run r
  obtain ⟨a, b, he, hb2⟩ := enc_two r h0 h1
  rw [he] at er
  have n45 : (45 : Int) ≠ (b.toNat : Int) := by omega
  have m45 : ((45 : Int) == (b.toNat : Int)) = false := beq_eq_false_iff_ne.2 n45
  have HI := hid (fun W => Tryd.strings_IndexByte ⟨#[]⟩ (b.toNat : Int) W)
  rw [show Lib.indexByte (⟨#[]⟩ : ByteArray).data.toList ((b.toNat : Int)).toNat.toUInt8 = -1 from rfl] at HI
  have HD := hid (Below.drew (Below.refl w.heap.size w))
  have HD2 := hid (Below.drew HD.out)
  have hq : ((((⟨#[43, 45]⟩ : ByteArray)[1]'(by simp [ByteArray.size])).toNat : Int) != (((⟨#[a, b]⟩ : ByteArray)[1]'(by simp [ByteArray.size])).toNat : Int)) = true := by
    show ((45 : Int) != (b.toNat : Int)) = true
    exact bne_iff_ne.2 n45
  have hr : (((⟨#[a, b]⟩ : ByteArray)[1]'(by simp [ByteArray.size])).toNat : Int) = (b.toNat : Int) := rfl
  have hw2 : IntKind.i64.wrap 2 = 2 := rfl
  have hex : (⟨#[43, 45]⟩ : ByteArray).extract 2 2 = ⟨#[]⟩ := rfl
  clear hb2 he n45 m45
  unfold sgs
  go_enter Tryd.func37, Tryd.ntmps37
  go_wp2_with fail
  refine HV.out.mono ?_; rintro e w1 ⟨rfl, rfl⟩
  go_wp2_with fail
  go_step3
  go_wp2_with fail
  go_loopw [9, 10, 11, 12] (fun v9 _ _ _ W => v9 = .int .i64 1 ∧ W = w1) (fun _ _ _ _ _ => 0)
  case atStart => exact ⟨rfl, rfl⟩
  case round =>
    obtain ⟨rfl, rfl⟩ := hrel
    go_wp2_with fail
    go_step3
    go_wp2_with fail
    go_quiet (fail)
    go_wp2_with fail
    go_region_law (first
      | (go_simp; go_at_call 48; refine (HI.out _).mono ?_; rintro e w2 ⟨rfl, rfl⟩))
    all_goals go_wp2_with fail
    all_goals rw [Exit.noGoto_ret]
    all_goals go_wp2_with fail
    all_goals rw [Exit.noGoto_ret]
    all_goals go_ret
    all_goals exact ⟨rfl, below_drewN _ _⟩
/-- strings.IndexRune in the text of both signs -/
theorem idx_any (r : Nat) (w : World) : Calls Tryd.prog 37 #[.string sgs, .int .i32 (r : Int)] w fun e w' => e = .returned (.int .i64 (if r < 128 then Lib.indexByte [43, 45] r.toUInt8 else -1)) ∧ Hid (Below w.heap.size w w') := by
  by_cases h : r < 128
  · rw [if_pos h]
    refine (Tryd.strings_IndexRune_ascii sgs (r : Int) w (by omega) (by omega)).mono ?_
    rintro e w' ⟨rfl, rfl⟩
    exact ⟨rfl, Below.refl _ _⟩
  · rw [if_neg h]
    by_cases h2 : r = 65533
    · subst h2; exact idx_err w
    · by_cases hv : Lib.validRune (r : Int) = true
      · by_cases h3 : r < 2048
        · exact idx_two (r : Int) w (by omega) (by omega)
        · exact idx_more (r : Int) w (by omega) (by omega) hv
      · exact idx_bad (r : Int) w (by omega) (by simpa using hv)

end Go.Proofs.YtenncfohifekhaaDoor
