/- The number below 0 that digits give: negated. -/
import Derived.Test.YtnlgdfceceehlabDoorDigs
namespace Go.Proofs.YtnlgdfceceehlabDoor
open Go.RowKit

/-- what negated tells -/
def ngV (d : List UInt8) : Int := if val d ≤ 9223372036854775808 then -(val d : Int) else 0
def ngB (d : List UInt8) : Bool := decide (val d ≤ 9223372036854775808)
theorem quo_at (D : Int) (h0 : 0 ≤ D) (h1 : D ≤ 9) : ∃ Q : Int, (-9223372036854775808 + D).tdiv 10 = Q ∧ (D ≤ 8 ∧ Q = -922337203685477580 ∨ D = 9 ∧ Q = -922337203685477579) := by
  refine ⟨_, rfl, ?_⟩
  obtain rfl | rfl | rfl | rfl | rfl | rfl | rfl | rfl | rfl | rfl : D = 0 ∨ D = 1 ∨ D = 2 ∨ D = 3 ∨ D = 4 ∨ D = 5 ∨ D = 6 ∨ D = 7 ∨ D = 8 ∨ D = 9 := by omega
  all_goals decide
set_option maxHeartbeats 2000000 in
set_option maxRecDepth 100000 in
/-- negated -/
theorem negated_any (d : List UInt8) (hd : Dig d) (w : World) :
    Calls Tryd.prog 11 #[.string ⟨d.toArray⟩] w fun e w' => e = .returned (.tuple #[.int .i64 (ngV d), .bool (ngB d)]) ∧ Hid (Below w.heap.size w w') := by
  obtain ⟨V, hV⟩ : ∃ V, V = ngV d := ⟨_, rfl⟩
  obtain ⟨B, hB⟩ : ∃ B, B = ngB d := ⟨_, rfl⟩
  rw [← hV, ← hB]
  have HV := hid hV
  have HBB := hid hB
  have HD := hid hd
  clear hV hB hd
  obtain ⟨S, hS⟩ : ∃ S : ByteArray, S = ⟨d.toArray⟩ := ⟨_, rfl⟩
  have hsz : S.size = d.length := by rw [hS]; simp [ByteArray.size]
  rw [← hS]
  have HZ := hid hsz
  have HT : Hid (∀ (i : Nat) (h : i < S.size) (h' : i < d.length), S[i]'h = d[i]'h') := fun i h h' => by subst hS; rfl
  clear hS hsz
  go_enter Tryd.func11, Tryd.ntmps11
  go_wp2_with fail
  go_loopg [4, 6, 7] S.size (fun g v4 _ _ wx => ∃ (i : Nat) (n : Int), v4 = .int .i64 n ∧ i + g = S.size ∧ n ≤ 0 ∧ -9223372036854775808 ≤ n ∧ Hid (n = -(val (d.take i) : Int)) ∧ wx.heap[w.heap.size]? = some (.stringIter S i) ∧ Hid (Below w.heap.size w wx))
  case atStart => exact ⟨0, 0, rfl, by omega, by decide, by decide, by simp [Hid, val_nil], World.iter_heap _ _ _, iter_below _ _ _⟩
  case round =>
    obtain ⟨i, n, rfl, hig, hn1, hn0, HN, hit, HB⟩ := hrel
    have hblt : w.heap.size < wr.heap.size := (Array.getElem?_eq_some_iff.1 hit).1
    have Hg := hid hig
    cases gk with
    | zero =>
      have hnx := fun ty => Lib.run_next_end_at (P := Tryd.prog) wr w.heap.size S i ty hit (by omega)
      clear hit hig
      have hi : i = d.length := by have := Hg.out; have := HZ.out; omega
      have hnv : n = -(val d : Int) := by have := HN.out; rwa [hi, List.take_length] at this
      obtain rfl : V = n := by rw [HV.out, hnv]; exact if_pos (by omega)
      obtain rfl : B = true := by rw [HBB.out]; exact decide_eq_true (by omega)
      clear hnv hi
      go_wp2_with fail
      go_ret2
      exact ⟨rfl, HB.out⟩
    | succ g =>
      have hi : i < S.size := by omega
      have hit2 : i < d.length := by have := HZ.out; omega
      have hx := HT.out i hi hit2
      have hdx := HD.out d[i] (List.getElem_mem hit2)
      have hvs := val_take_succ d i hit2
      have hvt := val_take d (i + 1)
      have hnx := fun ty => Lib.run_next_ascii_at (P := Tryd.prog) wr w.heap.size S i ty hit hi (by rw [hx]; omega)
      have HI2 := hid (Lib.iterAt_heap wr w.heap.size S i (i + 1) hit)
      have HB2 := hid (below_iterAt HB.out w.heap.size (Nat.le_refl _) S (i + 1))
      rw [hx] at hnx
      obtain ⟨X, hX⟩ : ∃ X : Int, X = (d[i].toNat : Int) := ⟨_, rfl⟩
      rw [← hX] at hnx
      have hx0 : 48 ≤ X := by omega
      have hx1 : X ≤ 57 := by omega
      obtain ⟨Q, hq, hQ⟩ := quo_at (X - 48) (by omega) (by omega)
      have HNn := HN.out
      have HQ := hid hQ
      have hstep : Hid (n * 10 - (X - 48) = -(val (d.take (i + 1)) : Int)) := by unfold Hid; omega
      have hq0 : Q ≤ 0 := by omega
      have hq1 : -922337203685477580 ≤ Q := by omega
      by_cases hc : n < Q
      · have hbig : 9223372036854775808 < val d := by omega
        obtain rfl : V = 0 := by rw [HV.out]; exact if_neg (by omega)
        obtain rfl : B = false := by rw [HBB.out]; exact decide_eq_false (by omega)
        clear hit hig hx hdx hvs hvt hX hQ HNn hbig
        go_wp2_with fail
        go_ret2
        exact ⟨rfl, HB2.out⟩
      · have hge : -9223372036854775808 ≤ n * 10 - (X - 48) := by omega
        have hge2 : -9223372036854775808 ≤ n * 10 := by omega
        clear hit hig hx hdx hvs hvt hX hQ HNn
        go_wp2_with fail
        go_roundg g
        case measure => omega
        case rel => exact ⟨i + 1, _, rfl, by have := Hg.out; omega, by omega, by omega, hstep, HI2.out, HB2.out⟩

end Go.Proofs.YtnlgdfceceehlabDoor
