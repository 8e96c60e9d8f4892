/- Texts gone through rune by rune: isDigit, isNumber, negated. -/
import Derived.Test.YtnlgdfceceehlabDoorCore
import Derived.Test.YtnlgdfceceehlabDoorModel
import Derived.Laws.Strings2
import Derived.Laws.Runes
import Derived.Laws.RangeAny
import Derived.Lib.OthersKept
import Derived.Deep.LoopGhost
import Derived.Deep.QuietTactic
namespace Go.Proofs.YtnlgdfceceehlabDoor
open Go.RowKit

theorem iter_below (w : World) (s : ByteArray) (i : Nat) : Below w.heap.size w (w.iter s i) := below_alloc w _
theorem below_iterAt {n : Nat} {w W : World} (h : Below n w W) (k : Nat) (hk : n ≤ k) (s : ByteArray) (i : Nat) : Below n w (W.iterAt k s i) :=
  ⟨h.os, h.tape, h.output, by simpa [World.iterAt] using h.size, fun j hj => by
    simp only [World.iterAt]
    rw [Array.getElem?_setIfInBounds_ne (by omega)]
    exact h.block j hj⟩
set_option maxHeartbeats 1000000 in
set_option maxRecDepth 100000 in
/-- isDigit -/
theorem isDigit_any (r : Int) (w : World) (h0 : 0 ≤ r) (h1 : r ≤ 2147483647) :
    Calls Tryd.prog 14 #[.int .i32 r] w fun e w' => e = .returned (.bool (decide (48 ≤ r ∧ r ≤ 57))) ∧ w' = w := by
  rcases (show (48 ≤ r ∧ r ≤ 57) ∨ (48 ≤ r ∧ ¬ r ≤ 57) ∨ ¬ 48 ≤ r by omega) with ⟨c1, c2⟩ | ⟨c1, c2⟩ | c1
  · rw [decide_eq_true ⟨c1, c2⟩]
    go_enter Tryd.func14, Tryd.ntmps14
    go_wp2
    go_ret
    exact ⟨rfl, rfl⟩
  · rw [decide_eq_false (by omega)]
    go_enter Tryd.func14, Tryd.ntmps14
    go_wp2
    go_ret
    exact ⟨rfl, rfl⟩
  · rw [decide_eq_false (by omega)]
    go_enter Tryd.func14, Tryd.ntmps14
    go_wp2
    go_ret
    exact ⟨rfl, rfl⟩
/-- digits that are a number behind their sign -/
def numOk (d : List UInt8) (b : Bool) : Bool := !d.isEmpty && (!(d.head? == some 48) || !b && d == [48]) && d.all isD
theorem numOk_formed (l : List UInt8) : numOk (digs l) (neg l) = formed l := by
  unfold numOk formed
  cases hn : neg l
  · rw [digs_plain hn]; simp
  · obtain ⟨r, rfl⟩ := neg_not hn
    rw [digs_minus]
    simp
/-- the first ones are digits -/
def DigTo (d : List UInt8) (i : Nat) : Prop := ∀ j (h : j < d.length), j < i → isD d[j] = true
theorem DigTo.all {d : List UInt8} (h : DigTo d d.length) : d.all isD = true := by
  rw [List.all_eq_true]
  intro x hx
  obtain ⟨j, hj, e⟩ := List.getElem_of_mem hx
  rw [← e]
  exact h j hj hj
theorem not_all {d : List UInt8} {i : Nat} (h : i < d.length) (hx : isD d[i] = false) : d.all isD = false := by
  cases e : d.all isD
  · rfl
  · rw [List.all_eq_true.1 e _ (List.getElem_mem h)] at hx
    exact hx
set_option maxHeartbeats 2000000 in
set_option maxRecDepth 100000 in
/-- isNumber -/
theorem isNumber_any (d : List UInt8) (b : Bool) (w : World) :
    Calls Tryd.prog 10 #[.string ⟨d.toArray⟩, .bool b] w fun e w' => e = .returned (.bool (numOk d b)) ∧ Hid (Below w.heap.size w w') := by
  cases d with
  | nil =>
    rw [show numOk [] b = false from rfl]
    go_enter Tryd.func10, Tryd.ntmps10
    go_wp2
    go_ret
    exact ⟨rfl, Below.refl _ _⟩
  | cons c r =>
    have e0 : (((((⟨(c :: r).toArray⟩ : ByteArray)[0]'(by simp [ByteArray.size])).toNat : Nat) : Int) == 48) = (c == 48) := by
      have e : ((⟨(c :: r).toArray⟩ : ByteArray)[0]'(by simp [ByteArray.size])) = c := rfl
      rw [e]
      by_cases hc : c = 48
      · subst hc; decide
      · rw [beq_eq_false_iff_ne.2 hc]
        exact beq_eq_false_iff_ne.2 fun h => hc (UInt8.toNat_inj.1 (by
          have : c.toNat = 48 := by omega
          rw [this]; rfl))
    by_cases hc : c = 48
    · subst hc
      cases b with
      | true =>
        rw [show numOk (48 :: r) true = false by simp [numOk]]
        go_enter Tryd.func10, Tryd.ntmps10
        go_wp2
        go_ret
        exact ⟨rfl, Below.refl _ _⟩
      | false =>
        cases r with
        | nil =>
          rw [show numOk [48] false = true by decide]
          have n0 := fun ty => run_next_ascii (P := Tryd.prog) w ⟨#[48]⟩ 0 ty (by decide) (by decide)
          have n1 := fun ty => run_next_end (P := Tryd.prog) w ⟨#[48]⟩ 1 ty (by decide)
          have HD := hid (fun w => isDigit_any 48 w (by decide) (by decide))
          go_enter Tryd.func10, Tryd.ntmps10
          go_wp2_with fail
          refine wp_loop_rounds 2 ?_
          rw [rounds_succ]
          go_wp2_with fail
          refine (HD.out _).mono ?_; rintro e w' ⟨rfl, rfl⟩
          go_wp2_with fail
          rw [rounds_succ]
          go_wp2_with fail
          go_ret
          exact ⟨rfl, iter_below w _ _⟩
        | cons x r =>
          rw [show numOk (48 :: x :: r) false = false by simp [numOk]]
          go_enter Tryd.func10, Tryd.ntmps10
          go_wp2
          go_ret
          exact ⟨rfl, Below.refl _ _⟩
    · rw [beq_eq_false_iff_ne.2 hc] at e0
      have hok : numOk (c :: r) b = (c :: r).all isD := by simp [numOk, hc]
      obtain ⟨V, hV⟩ : ∃ V, V = numOk (c :: r) b := ⟨_, rfl⟩
      rw [← hV]
      rw [hok] at hV
      have HV := hid hV
      clear hV hok
      go_enter Tryd.func10, Tryd.ntmps10
      go_wp2_with fail
      clear e0 hc
      generalize ((⟨(c :: r).toArray⟩ : ByteArray)[0]'(by simp [ByteArray.size])) = z0
      generalize c :: r = d at HV ⊢
      obtain ⟨S, hS⟩ : ∃ S : ByteArray, S = ⟨d.toArray⟩ := ⟨_, rfl⟩
      have hsz : S.size = d.length := by rw [hS]; simp [ByteArray.size]
      rw [← hS]
      have HZ := hid hsz
      have HT : Hid (∀ (i : Nat) (h : i < S.size) (h' : i < d.length), S[i]'h = d[i]'h') := fun i h h' => by subst hS; rfl
      clear hS hsz
      go_loopg [6] S.size (fun g _ wx => ∃ i : Nat, i + g = S.size ∧ wx.heap[w.heap.size]? = some (.stringIter S i) ∧ Hid (Below w.heap.size w wx) ∧ Hid (DigTo d i))
      case atStart => exact ⟨0, by omega, World.iter_heap _ _ _, iter_below _ _ _, fun j _ h => absurd h (by omega)⟩
      case round =>
        obtain ⟨i, hig, hit, HB, HN⟩ := hrel
        have hblt : w.heap.size < wr.heap.size := (Array.getElem?_eq_some_iff.1 hit).1
        have Hg := hid hig
        cases gk with
        | zero =>
          have hnx := fun ty => Lib.run_next_end_at (P := Tryd.prog) wr w.heap.size S i ty hit (by omega)
          clear hit hig
          obtain rfl : V = true := by
            rw [HV.out]
            refine DigTo.all ?_
            have := HN.out
            rwa [show i = d.length by have := Hg.out; have := HZ.out; omega] at this
          go_wp2_with fail
          go_ret
          exact ⟨rfl, HB.out⟩
        | succ g =>
          have hi : i < S.size := by omega
          have hit2 : i < d.length := by have := HZ.out; omega
          have hx := HT.out i hi hit2
          have hnot := fun h => not_all hit2 h
          have hyes : isD d[i] = true → Hid (DigTo d (i + 1)) := fun h j hj hji => by
            by_cases e : j = i
            · subst e; exact h
            · exact HN.out j hj (by omega)
          by_cases h128 : (S[i]'hi).toNat < 128
          · have hnx := fun ty => Lib.run_next_ascii_at (P := Tryd.prog) wr w.heap.size S i ty hit hi h128
            have HI2 := hid (Lib.iterAt_heap wr w.heap.size S i (i + 1) hit)
            have HB2 := hid (below_iterAt HB.out w.heap.size (Nat.le_refl _) S (i + 1))
            rw [hx] at hnx h128
            have HR := hid (fun (w : World) => isDigit_any ((d[i].toNat : Nat) : Int) w (by omega) (by omega))
            rw [show decide ((48 : Int) ≤ (d[i].toNat : Int) ∧ (d[i].toNat : Int) ≤ 57) = isD d[i] by unfold isD; exact decide_eq_decide.2 (by omega)] at HR
            generalize d[i] = x at *
            clear hit hig hx
            cases hD : isD x
            · obtain rfl : V = false := by rw [HV.out]; exact hnot hD
              rw [hD] at HR
              clear hyes hnot hD
              go_wp2_with fail
              refine (HR.out _).mono ?_; rintro e w2 ⟨rfl, rfl⟩
              go_wp2_with fail
              go_ret
              exact ⟨rfl, HB2.out⟩
            · have HC := hyes hD
              rw [hD] at HR
              clear hyes hnot hD
              go_wp2_with fail
              refine (HR.out _).mono ?_; rintro e w2 ⟨rfl, rfl⟩
              go_wp2_with fail
              go_roundg g
              case measure => omega
              case rel => exact ⟨i + 1, by have := Hg.out; omega, HI2.out, HB2.out, HC.out⟩
          · have hnx := fun ty => Lib.run_next_any_at (P := Tryd.prog) wr w.heap.size S i ty hit hi
            obtain ⟨hr0, hw1⟩ := decode_high S i hi (by omega)
            have hr1 := decode_le S i
            rw [hx] at h128
            obtain rfl : V = false := by
              rw [HV.out]
              refine hnot ?_
              unfold isD
              exact decide_eq_false (by omega)
            generalize (Utf8.decode S i).1 = R at *
            generalize (Utf8.decode S i).2 = D at *
            have HB2 := hid (below_iterAt HB.out w.heap.size (Nat.le_refl _) S (i + D))
            have HR := hid (fun (w : World) => isDigit_any (R : Int) w (by omega) (by omega))
            rw [decide_eq_false (show ¬ ((48 : Int) ≤ (R : Int) ∧ (R : Int) ≤ 57) by omega)] at HR
            clear hit hig hx h128 hnot hyes
            go_wp2_with fail
            refine (HR.out _).mono ?_; rintro e w2 ⟨rfl, rfl⟩
            go_wp2_with fail
            go_ret
            exact ⟨rfl, HB2.out⟩

end Go.Proofs.YtnlgdfceceehlabDoor
