/- The number that a formed text is, by the document: ref04's whole and Whole; ref Parse. -/
import Derived.Test.YtpmpndfinghlkaaDoorRtDig
import Derived.Test.YtpmpndfinghlkaaDoorRtPlain
namespace Go.Proofs.YtpmpndfinghlkaaDoor
open Go.RowKit

theorem byte_is {l : List UInt8} {n : Nat} (h : n < l.length) (c : UInt8) (z : Int) (hz : (c.toNat : Int) = z) : ((((⟨l.toArray⟩ : ByteArray)[n]'(by simpa [ByteArray.size] using h)).toNat : Int) == z) = decide (l[n] = c) := by
  have e : ((⟨l.toArray⟩ : ByteArray)[n]'(by simpa [ByteArray.size] using h)) = l[n] := rfl
  rw [e, ← hz]
  by_cases hc : l[n] = c
  · simp [hc]
  · rw [decide_eq_false hc]
    exact beq_eq_false_iff_ne.2 fun e2 => hc (UInt8.toNat_inj.1 (by omega))
theorem tell_bad {l : List UInt8} (h : formed l = false) : tellV l = 0 ∧ tellE l = 50 := by simp [tellV, tellE, h]
theorem tell_over {l : List UInt8} (h : formed l = true) (hf : fits l = false) : tellV l = 0 ∧ tellE l = 51 := by simp [tellV, tellE, h, hf]
theorem tell_ok {l : List UInt8} (h : formed l = true) (hf : fits l = true) : tellV l = num l ∧ tellE l = 0 := by simp [tellV, tellE, h, hf]

set_option maxHeartbeats 4000000 in
set_option maxRecDepth 100000 in
theorem whole_minus (l : List UInt8) (V : Int) (F : Bool) (w : World) (h0 : 1 < l.length) (hl : l.length ≤ 20) (h45 : l[0] = 45) (HDg : Hid (Dig (l.drop 1)))
    (HO : Hid (9223372036854775808 < val (l.drop 1) → V = 0 ∧ F = false)) (HK : Hid (val (l.drop 1) ≤ 9223372036854775808 → V = num l ∧ F = true)) (HNm : Hid (num l = -(val (l.drop 1) : Int)))
    (HD : Hid (-9223372036854775808 ≤ num l → num l ≤ 9223372036854775807 → ∀ w, Calls Tryd.prog 23 #[.int .i64 (num l)] w fun e w' => e = .returned (.string ⟨l.toArray⟩) ∧ Below w.heap.size w w')) :
    Calls Tryd.prog 34 #[.string ⟨l.toArray⟩] w fun e w' => e = .returned (.tuple #[.int .i64 V, .bool F]) ∧ Below w.heap.size w w' := by
  have e45 := byte_is (l := l) (n := 0) (by omega) 45 45 rfl
  rw [decide_eq_true h45] at e45
  have hz0 : (1 : Int) < (l.length : Int) := by omega
  have hz1 : (l.length : Int) ≤ 20 := by omega
  have hze : ((1 : Int) == (l.length : Int)) = false := beq_eq_false_iff_ne.2 (by omega)
  clear h45
  generalize num l = NM at *
  go_enter Tryd.func34, Tryd.ntmps34
  go_wp2_with fail
  go_loopw [4, 6, 7] (fun v4 v6 _ W => ∃ (i : Nat) (n : Int), v4 = .int .i64 n ∧ v6 = .int .i64 i ∧ 1 ≤ i ∧ i ≤ l.length ∧ n ≤ 0 ∧ -9223372036854775808 ≤ n ∧ Hid (n = -(val ((l.drop 1).take (i - 1)) : Int)) ∧ W = w) (fun _ v6 _ _ => l.length - (intOf v6).toNat)
  case atStart => exact ⟨1, 0, rfl, rfl, Nat.le_refl _, by omega, by decide, by decide, by simp [Hid, val_nil], rfl⟩
  case round =>
    obtain ⟨i, n, rfl, rfl, hk, hi, hn1, hn0, HN, rfl⟩ := hrel
    by_cases hlt : i < l.length
    · have hlz : (i : Int) < (l.length : Int) := by omega
      obtain ⟨X, hX⟩ : ∃ X : Int, X = (l[i].toNat : Int) := ⟨_, rfl⟩
      have hdx := HDg.out l[i] (by
        rw [List.mem_drop_iff_getElem]
        exact ⟨i - 1, by omega, by simp only [show 1 + (i - 1) = i by omega]⟩)
      have hx0 : 48 ≤ X := by omega
      have hx1 : X ≤ 57 := by omega
      have hB : ((((⟨l.toArray⟩ : ByteArray)[i]'(by simpa [ByteArray.size] using hlt)).toNat : Nat) : Int) = X := by rw [hX]; rfl
      have hvs := val_take_succ (l.drop 1) (i - 1) (by simp; omega)
      rw [show (l.drop 1)[i - 1]'(by simp; omega) = l[i] by rw [List.getElem_drop]; simp only [show 1 + (i - 1) = i by omega]] at hvs
      have hvt := val_take (l.drop 1) (i - 1 + 1)
      have HNn := HN.out
      have hstep : Hid (n * 10 - (X - 48) = -(val ((l.drop 1).take (i + 1 - 1)) : Int)) := by
        unfold Hid
        rw [show i + 1 - 1 = i - 1 + 1 by omega]
        omega
      rcases (show n < -922337203685477580 ∨ (n = -922337203685477580 ∧ 8 < X - 48) ∨ (n = -922337203685477580 ∧ ¬ 8 < X - 48) ∨ (¬ n < -922337203685477580 ∧ n ≠ -922337203685477580) by omega) with c1 | ⟨rfl, c2⟩ | ⟨rfl, c2⟩ | ⟨c1, c2⟩
      · obtain ⟨rfl, rfl⟩ := HO.out (by omega)
        clear hX hdx hvs hvt HNn hstep
        go_wp2
        go_ret2
        exact ⟨rfl, rfl, rfl, rfl, Nat.le_refl _, fun _ _ => rfl⟩
      · obtain ⟨rfl, rfl⟩ := HO.out (by omega)
        clear hX hdx hvs hvt HNn hstep
        go_wp2
        go_ret2
        exact ⟨rfl, rfl, rfl, rfl, Nat.le_refl _, fun _ _ => rfl⟩
      · clear hX hdx hvs hvt HNn
        go_wp2
        exact ⟨⟨i + 1, _, rfl, by go_num, by omega, by omega, by omega, by omega, hstep, by simp⟩, by simp [intOf]; omega⟩
      · have hce : (n == -922337203685477580) = false := beq_eq_false_iff_ne.2 c2
        have hge : -9223372036854775808 ≤ n * 10 - (X - 48) := by omega
        have hge2 : -922337203685477579 ≤ n := by omega
        clear hX hdx hvs hvt HNn c2
        go_wp2
        exact ⟨⟨i + 1, _, rfl, by go_num, by omega, by omega, by omega, by omega, hstep, by simp⟩, by simp [intOf]; omega⟩
    · have hnv : n = -(val (l.drop 1) : Int) := by
        have := HN.out
        rwa [List.take_of_length_le (by simp; omega)] at this
      clear HN
      obtain ⟨rfl, rfl⟩ := HK.out (by omega)
      obtain rfl : V = n := by rw [HNm.out, hnv]
      clear hnv
      have HG := HD.out hn0 (by omega)
      go_wp2_with fail
      refine (HG _).mono ?_; rintro e w2 ⟨rfl, hb2⟩
      have HB2 := hid hb2
      clear hb2
      go_wp2_with fail
      go_ret2
      exact ⟨rfl, HB2.out⟩
set_option maxHeartbeats 4000000 in
set_option maxRecDepth 100000 in
theorem whole_plain (l : List UInt8) (V : Int) (F : Bool) (w : World) (h0 : 0 < l.length) (hl : l.length ≤ 20) (h45 : l[0] ≠ 45) (HDg : Hid (Dig (l.drop 0)))
    (HO : Hid (9223372036854775807 < val (l.drop 0) → V = 0 ∧ F = false)) (HK : Hid (val (l.drop 0) ≤ 9223372036854775807 → V = num l ∧ F = true)) (HNm : Hid (num l = (val (l.drop 0) : Int)))
    (HD : Hid (-9223372036854775808 ≤ num l → num l ≤ 9223372036854775807 → ∀ w, Calls Tryd.prog 23 #[.int .i64 (num l)] w fun e w' => e = .returned (.string ⟨l.toArray⟩) ∧ Below w.heap.size w w')) :
    Calls Tryd.prog 34 #[.string ⟨l.toArray⟩] w fun e w' => e = .returned (.tuple #[.int .i64 V, .bool F]) ∧ Below w.heap.size w w' := by
  have e45 := byte_is (l := l) (n := 0) (by omega) 45 45 rfl
  rw [decide_eq_false h45] at e45
  have hz0 : (0 : Int) < (l.length : Int) := by omega
  have hz1 : (l.length : Int) ≤ 20 := by omega
  have hze : ((0 : Int) == (l.length : Int)) = false := beq_eq_false_iff_ne.2 (by omega)
  clear h45
  generalize num l = NM at *
  go_enter Tryd.func34, Tryd.ntmps34
  go_wp2_with fail
  go_loopw [4, 6, 7] (fun v4 v6 _ W => ∃ (i : Nat) (n : Int), v4 = .int .i64 n ∧ v6 = .int .i64 i ∧ 0 ≤ i ∧ i ≤ l.length ∧ n ≤ 0 ∧ -9223372036854775808 ≤ n ∧ Hid (n = -(val ((l.drop 0).take (i - 0)) : Int)) ∧ W = w) (fun _ v6 _ _ => l.length - (intOf v6).toNat)
  case atStart => exact ⟨0, 0, rfl, rfl, Nat.le_refl _, by omega, by decide, by decide, by simp [Hid, val_nil], rfl⟩
  case round =>
    obtain ⟨i, n, rfl, rfl, hk, hi, hn1, hn0, HN, rfl⟩ := hrel
    by_cases hlt : i < l.length
    · have hlz : (i : Int) < (l.length : Int) := by omega
      obtain ⟨X, hX⟩ : ∃ X : Int, X = (l[i].toNat : Int) := ⟨_, rfl⟩
      have hdx := HDg.out l[i] (by
        rw [List.mem_drop_iff_getElem]
        exact ⟨i - 0, by omega, by simp only [show 0 + (i - 0) = i by omega]⟩)
      have hx0 : 48 ≤ X := by omega
      have hx1 : X ≤ 57 := by omega
      have hB : ((((⟨l.toArray⟩ : ByteArray)[i]'(by simpa [ByteArray.size] using hlt)).toNat : Nat) : Int) = X := by rw [hX]; rfl
      have hvs := val_take_succ (l.drop 0) (i - 0) (by simp; omega)
      rw [show (l.drop 0)[i - 0]'(by simp; omega) = l[i] by rw [List.getElem_drop]; simp only [show 0 + (i - 0) = i by omega]] at hvs
      have hvt := val_take (l.drop 0) (i - 0 + 1)
      have HNn := HN.out
      have hstep : Hid (n * 10 - (X - 48) = -(val ((l.drop 0).take (i + 1 - 0)) : Int)) := by
        unfold Hid
        rw [show i + 1 - 0 = i - 0 + 1 by omega]
        omega
      rcases (show n < -922337203685477580 ∨ (n = -922337203685477580 ∧ 8 < X - 48) ∨ (n = -922337203685477580 ∧ ¬ 8 < X - 48) ∨ (¬ n < -922337203685477580 ∧ n ≠ -922337203685477580) by omega) with c1 | ⟨rfl, c2⟩ | ⟨rfl, c2⟩ | ⟨c1, c2⟩
      · obtain ⟨rfl, rfl⟩ := HO.out (by omega)
        clear hX hdx hvs hvt HNn hstep
        go_wp2
        go_ret2
        exact ⟨rfl, rfl, rfl, rfl, Nat.le_refl _, fun _ _ => rfl⟩
      · obtain ⟨rfl, rfl⟩ := HO.out (by omega)
        clear hX hdx hvs hvt HNn hstep
        go_wp2
        go_ret2
        exact ⟨rfl, rfl, rfl, rfl, Nat.le_refl _, fun _ _ => rfl⟩
      · clear hX hdx hvs hvt HNn
        go_wp2
        exact ⟨⟨i + 1, _, rfl, by go_num, by omega, by omega, by omega, by omega, hstep, by simp⟩, by simp [intOf]; omega⟩
      · have hce : (n == -922337203685477580) = false := beq_eq_false_iff_ne.2 c2
        have hge : -9223372036854775808 ≤ n * 10 - (X - 48) := by omega
        have hge2 : -922337203685477579 ≤ n := by omega
        clear hX hdx hvs hvt HNn c2
        go_wp2
        exact ⟨⟨i + 1, _, rfl, by go_num, by omega, by omega, by omega, by omega, hstep, by simp⟩, by simp [intOf]; omega⟩
    · have hnv : n = -(val (l.drop 0) : Int) := by
        have := HN.out
        rwa [List.take_of_length_le (by simp; omega)] at this
      clear HN
      by_cases hm : n = -9223372036854775808
      · obtain ⟨rfl, rfl⟩ := HO.out (by omega)
        subst hm
        clear hnv
        go_wp2
        go_ret2
        exact ⟨rfl, rfl, rfl, rfl, Nat.le_refl _, fun _ _ => rfl⟩
      · obtain ⟨rfl, rfl⟩ := HK.out (by omega)
        have hme : (n == -9223372036854775808) = false := beq_eq_false_iff_ne.2 hm
        have hnn : -n = V := by rw [HNm.out, hnv]; omega
        have hn2 : -9223372036854775807 ≤ n := by omega
        have HG := HD.out (by omega) (by omega)
        clear hnv hm
        go_wp2_with fail
        refine (HG _).mono ?_; rintro e w2 ⟨rfl, hb2⟩
        have HB2 := hid hb2
        clear hb2
        go_wp2_with fail
        go_ret2
        exact ⟨rfl, HB2.out⟩
set_option maxHeartbeats 2000000 in
set_option maxRecDepth 100000 in
theorem whole_long (l : List UInt8) (w : World) (hl : 20 < l.length) (hb : l.length ≤ 140737488351232) :
    Calls Tryd.prog 34 #[.string ⟨l.toArray⟩] w fun e w' => e = .returned (.tuple #[.int .i64 0, .bool false]) ∧ Below w.heap.size w w' := by
  have hz0 : (20 : Int) < (l.length : Int) := by omega
  have hz1 : (l.length : Int) ≤ 140737488351232 := by omega
  have hze : ((0 : Int) == (l.length : Int)) = false := beq_eq_false_iff_ne.2 (by omega)
  have hze1 : ((1 : Int) == (l.length : Int)) = false := beq_eq_false_iff_ne.2 (by omega)
  have e45 := byte_is (l := l) (n := 0) (by omega) 45 45 rfl
  by_cases h : l[0] = 45
  · rw [decide_eq_true h] at e45
    clear h
    go_enter Tryd.func34, Tryd.ntmps34
    go_wp2
    go_ret2
    exact ⟨rfl, Below.refl _ _⟩
  · rw [decide_eq_false h] at e45
    clear h
    go_enter Tryd.func34, Tryd.ntmps34
    go_wp2
    go_ret2
    exact ⟨rfl, Below.refl _ _⟩
theorem fits_minus {l : List UInt8} (h : neg l = true) : fits l = decide (val (digs l) ≤ 9223372036854775808) := by simp [fits, h]
theorem fits_plain {l : List UInt8} (h : neg l = false) : fits l = decide (val (digs l) ≤ 9223372036854775807) := by simp [fits, h]
/-- ref whole, at a formed text -/
theorem whole_any (l : List UInt8) (w : World) (hF : formed l = true) (hb : l.length ≤ 140737488351232) :
    Calls Tryd.prog 34 #[.string ⟨l.toArray⟩] w fun e w' => e = .returned (.tuple #[.int .i64 (tellV l), .bool (fits l)]) ∧ Below w.heap.size w w' := by
  by_cases hl : 20 < l.length
  · rw [long_over hF hl, (tell_over hF (long_over hF hl)).1]
    exact whole_long l w hl hb
  · obtain ⟨hD, hp⟩ := formed_parts hF
    have hdig : Hid (-9223372036854775808 ≤ num l → num l ≤ 9223372036854775807 → ∀ w, Calls Tryd.prog 23 #[.int .i64 (num l)] w fun e w' => e = .returned (.string ⟨l.toArray⟩) ∧ Below w.heap.size w w') := fun h0 h1 w => by
      have := digits_any (num l) w h0 h1
      rwa [itoa_num hF] at this
    have hO : fits l = false → tellV l = 0 ∧ fits l = false := fun h => ⟨(tell_over hF h).1, h⟩
    have hK : fits l = true → tellV l = num l ∧ fits l = true := fun h => ⟨(tell_ok hF h).1, h⟩
    cases hn : neg l
    · have hd := digs_plain hn
      have hne : 0 < l.length := by
        rcases hp with rfl | ⟨d, r, h1, _⟩
        · decide
        · rw [hd] at h1; rw [h1]; simp
      have h45 : l[0] ≠ 45 := fun e => by
        cases l with
        | nil => simp at hne
        | cons c r => simp at e; subst e; simp [neg] at hn
      have hf := fits_plain hn
      rw [hd] at hf hD
      refine whole_plain l _ _ w hne (by omega) h45 hD (fun h => hO ?_) (fun h => hK ?_) ?_ hdig
      · rw [hf]; exact decide_eq_false (by rw [List.drop_zero] at h; omega)
      · rw [hf]; exact decide_eq_true (by rw [List.drop_zero] at h; omega)
      · show num l = _
        simp [num, hn, hd]
    · obtain ⟨r, rfl⟩ := neg_not hn
      have hd := digs_minus r
      have hne : 1 < (45 :: r).length := by
        rcases hp with h | ⟨d, x, h1, _⟩
        · simp at h
        · rw [hd] at h1; rw [h1]; simp
      have hf := fits_minus hn
      rw [hd] at hf hD
      refine whole_minus (45 :: r) _ _ w hne (by omega) rfl hD (fun h => hO ?_) (fun h => hK ?_) ?_ hdig
      · rw [hf]; exact decide_eq_false (by have : val (List.drop 1 (45 :: r)) = val r := rfl; omega)
      · rw [hf]; exact decide_eq_true h
      · show num _ = _
        simp [num, hn, hd]

/-- a text that is no number: ref whole -/
theorem not_formed {l : List UInt8} (h : formed l = false) (v : Int) (h0 : -9223372036854775808 ≤ v) (h1 : v ≤ 9223372036854775807) : Lib.itoa v ≠ l := fun e => by
  have := (itoa_formed v h0 h1).1
  rw [e, h] at this
  cases this
def BadP (w : World) (e : Ending) (w' : World) : Prop := (∃ v : Int, -9223372036854775808 ≤ v ∧ v ≤ 9223372036854775807 ∧ e = .returned (.tuple #[.int .i64 v, .bool false])) ∧ Below w.heap.size w w'
set_option maxHeartbeats 4000000 in
set_option maxRecDepth 100000 in
theorem bad_minus (l : List UInt8) (w : World) (h0 : 1 < l.length) (hl : l.length ≤ 20) (h45 : l[0] = 45)
    (HD : Hid (∀ n : Int, -9223372036854775808 ≤ n → n ≤ 9223372036854775807 → ∀ w, ∃ t : List UInt8, (t == l) = false ∧ Calls Tryd.prog 23 #[.int .i64 n] w fun e w' => e = .returned (.string ⟨t.toArray⟩) ∧ Below w.heap.size w w')) :
    Calls Tryd.prog 34 #[.string ⟨l.toArray⟩] w (BadP w) := by
  have e45 := byte_is (l := l) (n := 0) (by omega) 45 45 rfl
  rw [decide_eq_true h45] at e45
  have hz0 : (1 : Int) < (l.length : Int) := by omega
  have hz1 : (l.length : Int) ≤ 20 := by omega
  have hze : ((1 : Int) == (l.length : Int)) = false := beq_eq_false_iff_ne.2 (by omega)
  clear h45
  go_enter Tryd.func34, Tryd.ntmps34
  go_wp2_with fail
  go_loopw [4, 6, 7] (fun v4 v6 _ W => ∃ (i : Nat) (n : Int), v4 = .int .i64 n ∧ v6 = .int .i64 i ∧ 1 ≤ i ∧ i ≤ l.length ∧ n ≤ 0 ∧ -9223372036854775808 ≤ n ∧ W = w) (fun _ v6 _ _ => l.length - (intOf v6).toNat)
  case atStart => exact ⟨1, 0, rfl, rfl, Nat.le_refl _, by omega, by decide, by decide, rfl⟩
  case round =>
    obtain ⟨i, n, rfl, rfl, hk, hi, hn1, hn0, rfl⟩ := hrel
    by_cases hlt : i < l.length
    · have hlz : (i : Int) < (l.length : Int) := by omega
      obtain ⟨X, hX⟩ : ∃ X : Int, X = (l[i].toNat : Int) := ⟨_, rfl⟩
      have hB : ((((⟨l.toArray⟩ : ByteArray)[i]'(by simpa [ByteArray.size] using hlt)).toNat : Nat) : Int) = X := by rw [hX]; rfl
      have hx9 : 0 ≤ X := by omega
      clear hX
      by_cases hx0 : X < 48
      · go_wp2
        go_ret2
        exact ⟨⟨_, by decide, by decide, rfl⟩, Below.refl _ _⟩
      by_cases hx1 : 57 < X
      · go_wp2
        go_ret2
        exact ⟨⟨_, by decide, by decide, rfl⟩, Below.refl _ _⟩
      rcases (show n < -922337203685477580 ∨ (n = -922337203685477580 ∧ 8 < X - 48) ∨ (n = -922337203685477580 ∧ ¬ 8 < X - 48) ∨ (¬ n < -922337203685477580 ∧ n ≠ -922337203685477580) by omega) with c1 | ⟨rfl, c2⟩ | ⟨rfl, c2⟩ | ⟨c1, c2⟩
      · go_wp2
        go_ret2
        exact ⟨⟨_, by decide, by decide, rfl⟩, Below.refl _ _⟩
      · go_wp2
        go_ret2
        exact ⟨⟨_, by decide, by decide, rfl⟩, Below.refl _ _⟩
      · go_wp2
        exact ⟨⟨i + 1, _, rfl, by go_num, by omega, by omega, by omega, by omega, by simp⟩, by simp [intOf]; omega⟩
      · have hce : (n == -922337203685477580) = false := beq_eq_false_iff_ne.2 c2
        have hge : -9223372036854775808 ≤ n * 10 - (X - 48) := by omega
        have hge2 : -922337203685477579 ≤ n := by omega
        clear c2
        go_wp2
        exact ⟨⟨i + 1, _, rfl, by go_num, by omega, by omega, by omega, by omega, by simp⟩, by simp [intOf]; omega⟩
    · obtain ⟨t, hne, HG⟩ := HD.out n hn0 (by omega) wr
      go_wp2_with fail
      refine HG.mono ?_; rintro e w2 ⟨rfl, hb2⟩
      have HB2 := hid hb2
      clear hb2
      go_wp2_with fail
      go_ret2
      exact ⟨⟨_, by omega, by omega, rfl⟩, HB2.out⟩
set_option maxHeartbeats 4000000 in
set_option maxRecDepth 100000 in
theorem bad_plain (l : List UInt8) (w : World) (h0 : 0 < l.length) (hl : l.length ≤ 20) (h45 : l[0] ≠ 45)
    (HD : Hid (∀ n : Int, -9223372036854775808 ≤ n → n ≤ 9223372036854775807 → ∀ w, ∃ t : List UInt8, (t == l) = false ∧ Calls Tryd.prog 23 #[.int .i64 n] w fun e w' => e = .returned (.string ⟨t.toArray⟩) ∧ Below w.heap.size w w')) :
    Calls Tryd.prog 34 #[.string ⟨l.toArray⟩] w (BadP w) := by
  have e45 := byte_is (l := l) (n := 0) (by omega) 45 45 rfl
  rw [decide_eq_false h45] at e45
  have hz0 : (0 : Int) < (l.length : Int) := by omega
  have hz1 : (l.length : Int) ≤ 20 := by omega
  have hze : ((0 : Int) == (l.length : Int)) = false := beq_eq_false_iff_ne.2 (by omega)
  clear h45
  go_enter Tryd.func34, Tryd.ntmps34
  go_wp2_with fail
  go_loopw [4, 6, 7] (fun v4 v6 _ W => ∃ (i : Nat) (n : Int), v4 = .int .i64 n ∧ v6 = .int .i64 i ∧ i ≤ l.length ∧ n ≤ 0 ∧ -9223372036854775808 ≤ n ∧ W = w) (fun _ v6 _ _ => l.length - (intOf v6).toNat)
  case atStart => exact ⟨0, 0, rfl, rfl, by omega, by decide, by decide, rfl⟩
  case round =>
    obtain ⟨i, n, rfl, rfl, hi, hn1, hn0, rfl⟩ := hrel
    by_cases hlt : i < l.length
    · have hlz : (i : Int) < (l.length : Int) := by omega
      obtain ⟨X, hX⟩ : ∃ X : Int, X = (l[i].toNat : Int) := ⟨_, rfl⟩
      have hB : ((((⟨l.toArray⟩ : ByteArray)[i]'(by simpa [ByteArray.size] using hlt)).toNat : Nat) : Int) = X := by rw [hX]; rfl
      have hx9 : 0 ≤ X := by omega
      clear hX
      by_cases hx0 : X < 48
      · go_wp2
        go_ret2
        exact ⟨⟨_, by decide, by decide, rfl⟩, Below.refl _ _⟩
      by_cases hx1 : 57 < X
      · go_wp2
        go_ret2
        exact ⟨⟨_, by decide, by decide, rfl⟩, Below.refl _ _⟩
      rcases (show n < -922337203685477580 ∨ (n = -922337203685477580 ∧ 8 < X - 48) ∨ (n = -922337203685477580 ∧ ¬ 8 < X - 48) ∨ (¬ n < -922337203685477580 ∧ n ≠ -922337203685477580) by omega) with c1 | ⟨rfl, c2⟩ | ⟨rfl, c2⟩ | ⟨c1, c2⟩
      · go_wp2
        go_ret2
        exact ⟨⟨_, by decide, by decide, rfl⟩, Below.refl _ _⟩
      · go_wp2
        go_ret2
        exact ⟨⟨_, by decide, by decide, rfl⟩, Below.refl _ _⟩
      · go_wp2
        exact ⟨⟨i + 1, _, rfl, by go_num, by omega, by omega, by omega, by simp⟩, by simp [intOf]; omega⟩
      · have hce : (n == -922337203685477580) = false := beq_eq_false_iff_ne.2 c2
        have hge : -9223372036854775808 ≤ n * 10 - (X - 48) := by omega
        have hge2 : -922337203685477579 ≤ n := by omega
        clear c2
        go_wp2
        exact ⟨⟨i + 1, _, rfl, by go_num, by omega, by omega, by omega, by simp⟩, by simp [intOf]; omega⟩
    · by_cases hm : n = -9223372036854775808
      · subst hm
        go_wp2
        go_ret2
        exact ⟨⟨_, by decide, by decide, rfl⟩, Below.refl _ _⟩
      · have hme : (n == -9223372036854775808) = false := beq_eq_false_iff_ne.2 hm
        obtain ⟨N, hN⟩ : ∃ N : Int, N = -n := ⟨_, rfl⟩
        have hnn : -n = N := hN.symm
        obtain ⟨t, hne, HG⟩ := HD.out N (by omega) (by omega) wr
        have hn2 : -9223372036854775807 ≤ n := by omega
        clear hm hN
        go_wp2_with fail
        refine HG.mono ?_; rintro e w2 ⟨rfl, hb2⟩
        have HB2 := hid hb2
        clear hb2
        go_wp2_with fail
        go_ret2
        exact ⟨⟨_, by omega, by omega, rfl⟩, HB2.out⟩
/-- ref whole, at a text that is no number -/
theorem whole_bad (l : List UInt8) (w : World) (hF : formed l = false) (hb : l.length ≤ 140737488351232) : Calls Tryd.prog 34 #[.string ⟨l.toArray⟩] w (BadP w) := by
  by_cases hl : 20 < l.length
  · refine (whole_long l w hl hb).mono ?_
    rintro e w' ⟨rfl, h⟩
    exact ⟨⟨_, by decide, by decide, rfl⟩, h⟩
  have HD : Hid (∀ n : Int, -9223372036854775808 ≤ n → n ≤ 9223372036854775807 → ∀ w, ∃ t : List UInt8, (t == l) = false ∧ Calls Tryd.prog 23 #[.int .i64 n] w fun e w' => e = .returned (.string ⟨t.toArray⟩) ∧ Below w.heap.size w w') := fun n h0 h1 w => ⟨Lib.itoa n, beq_eq_false_iff_ne.2 (not_formed hF n h0 h1), digits_any n w h0 h1⟩
  cases l with
  | nil =>
    clear hF hb HD hl
    go_enter Tryd.func34, Tryd.ntmps34
    go_wp2
    go_ret2
    exact ⟨⟨_, by decide, by decide, rfl⟩, Below.refl _ _⟩
  | cons c r =>
    by_cases hc : c = 45
    · by_cases hr : r = []
      · subst hc hr
        clear hF hb HD hl
        go_enter Tryd.func34, Tryd.ntmps34
        go_wp2
        go_ret2
        exact ⟨⟨_, by decide, by decide, rfl⟩, Below.refl _ _⟩
      · have := List.length_pos_iff.2 hr
        exact bad_minus (c :: r) w (by simp only [List.length_cons]; omega) (by omega) hc HD
    · exact bad_plain (c :: r) w (by simp) (by omega) hc HD
/-- what Whole tells -/
def WhP (l : List UInt8) (w : World) (e : Ending) (w' : World) : Prop :=
  (∃ (v : Int) (b : Bool), e = .returned (.tuple #[.int .i64 v, .bool b]) ∧ -9223372036854775808 ≤ v ∧ v ≤ 9223372036854775807 ∧ numO l 9223372036854775807 = if b = true ∧ 0 ≤ v then some v else none) ∧ Below w.heap.size w w'
set_option maxHeartbeats 2000000 in
set_option maxRecDepth 100000 in
theorem rWhole_any (l : List UInt8) (w : World) (hb : l.length ≤ 140737488351232) : Calls Tryd.prog 27 #[.string ⟨l.toArray⟩] w (WhP l w) := by
  cases hF : formed l
  · have HW := hid (whole_bad l w hF hb)
    have HN : Hid (numO l 9223372036854775807 = none) := by
      unfold Hid
      cases e : numO l 9223372036854775807 with
      | none => rfl
      | some x =>
        obtain ⟨a, b, c⟩ := numO_some e
        exact absurd a (not_formed hF x (by omega) c)
    clear hF hb
    go_enter Tryd.func27, Tryd.ntmps27
    go_wp2_with fail
    refine HW.out.mono ?_; rintro e w2 ⟨⟨v, h0, h1, rfl⟩, hb2⟩
    have HB2 := hid hb2
    clear hb2
    go_wp2_with fail
    go_ret2
    exact ⟨⟨v, false, rfl, h0, h1, by rw [HN.out, if_neg (by simp)]⟩, HB2.out⟩
  · have HW := hid (whole_any l w hF hb)
    have HN : Hid (-9223372036854775808 ≤ tellV l ∧ tellV l ≤ 9223372036854775807 ∧ numO l 9223372036854775807 = if fits l = true ∧ 0 ≤ tellV l then some (tellV l) else none) := by
      unfold Hid
      cases hf : fits l
      · rw [(tell_over hF hf).1, if_neg (by simp)]
        refine ⟨by decide, by decide, ?_⟩
        cases e : numO l 9223372036854775807 with
        | none => rfl
        | some x =>
          obtain ⟨rfl, b, c⟩ := numO_some e
          rw [(itoa_formed x (by omega) c).2.1] at hf
          cases hf
      · obtain ⟨a, b⟩ := num_fits hf
        rw [(tell_ok hF hf).1]
        refine ⟨a, b, ?_⟩
        by_cases h0 : 0 ≤ num l
        · rw [if_pos ⟨rfl, h0⟩, ← numO_itoa (num l) 9223372036854775807 h0 b (by decide), itoa_num hF]
        · rw [if_neg (fun h => h0 h.2)]
          cases e : numO l 9223372036854775807 with
          | none => rfl
          | some x =>
            obtain ⟨rfl, c, d⟩ := numO_some e
            rw [(itoa_formed x (by omega) d).2.2] at h0
            exact absurd c h0
    generalize tellV l = V at *
    generalize fits l = F at *
    clear hF hb
    go_enter Tryd.func27, Tryd.ntmps27
    go_wp2_with fail
    refine HW.out.mono ?_; rintro e w2 ⟨rfl, hb2⟩
    have HB2 := hid hb2
    clear hb2
    go_wp2_with fail
    go_ret2
    exact ⟨⟨V, F, rfl, HN.out.1, HN.out.2.1, HN.out.2.2⟩, HB2.out⟩

end Go.Proofs.YtpmpndfinghlkaaDoor
