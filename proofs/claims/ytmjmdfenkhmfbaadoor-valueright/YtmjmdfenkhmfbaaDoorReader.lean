/- The document's at, signed, texts. -/
import Derived.Test.YtmjmdfenkhmfbaaDoorDumpB
namespace Go.Proofs.YtmjmdfenkhmfbaaDoor
open Go.RowKit

/-- the number of two bytes at a place; below 0: they are not there -/
def at2 (s : Nm) (i : Nat) : Int := if i + 2 ≤ s.length then (num2 (s.getD i 0) (s.getD (i + 1) 0) : Int) else -1
theorem at2_lt (s : Nm) (i : Nat) : at2 s i < 65536 := by
  unfold at2
  split
  · have := num2_lt (s.getD i 0) (s.getD (i + 1) 0); omega
  · omega
set_option maxHeartbeats 1000000 in
set_option maxRecDepth 100000 in
/-- ref at -/
theorem at_any (s : Nm) (i : Nat) (w : World) (hs : s.length ≤ 281474976710656) (hi : i ≤ 281474976710656) :
    Calls Tryd.prog 61 #[txt s, .int .i64 (i : Int)] w fun e w' => e = .returned (.int .i64 (at2 s i)) ∧ Hid (Below w.heap.size w w') := by
  have hsz : (s.length : Int) ≤ 281474976710656 := by omega
  have hiz : (i : Int) ≤ 281474976710656 := by omega
  by_cases h : i + 2 ≤ s.length
  · have hz : (i : Int) + 2 ≤ (s.length : Int) := by omega
    have hz1 : (i : Int) + 1 < (s.length : Int) := by omega
    have hz2 : (i : Int) < (s.length : Int) := by omega
    have e : at2 s i = (s[i].toNat : Int) * 256 + (s[i + 1].toNat : Int) := by
      unfold at2
      rw [if_pos h]
      simp [num2, List.getD, show i < s.length by omega, show i + 1 < s.length by omega]
    have b0 : (s[i].toNat : Int) < 256 := by have := s[i].toNat_lt; omega
    have b1 : (s[i + 1].toNat : Int) < 256 := by have := s[i + 1].toNat_lt; omega
    have hB0 : ((((⟨s.toArray⟩ : ByteArray)[i]'(by simp [ByteArray.size]; omega)).toNat : Nat) : Int) = (s[i].toNat : Int) := rfl
    have hB1 : ((((⟨s.toArray⟩ : ByteArray)[i + 1]'(by simp [ByteArray.size]; omega)).toNat : Nat) : Int) = (s[i + 1].toNat : Int) := rfl
    rw [e]
    have HD := hid (below_drewN w)
    generalize (s[i].toNat : Int) = X at *
    generalize (s[i + 1].toNat : Int) = Y at *
    have x0 : 0 ≤ X := by omega
    have y0 : 0 ≤ Y := by omega
    have x1 : X < 256 := by omega
    have y1 : Y < 256 := by omega
    clear e
    go_enter Tryd.func61, Tryd.ntmps61
    go_wp2_with fail
    go_quiet (fail)
    go_wp2_with fail
    go_ret
    first | exact ⟨rfl, HD.out _⟩ | exact ⟨rfl, Below.refl _ _⟩
  · rw [show at2 s i = -1 from if_neg h]
    have hz : (s.length : Int) < (i : Int) + 2 := by omega
    go_enter Tryd.func61, Tryd.ntmps61
    go_wp2_with fail
    go_ret
    exact ⟨rfl, Below.refl _ _⟩

theorem drop_two {s : Nm} {j : Nat} (h : j + 2 ≤ s.length) : s.drop j = s.getD j 0 :: s.getD (j + 1) 0 :: s.drop (j + 2) := by
  rw [List.drop_eq_getElem_cons (by omega), List.drop_eq_getElem_cons (show j + 1 < s.length by omega)]
  simp [List.getD, show j < s.length by omega, show j + 1 < s.length by omega]
theorem rdT_short {r : Nm} (h : r.length < 2) (n : Nat) : rdT r (n + 1) = none := by
  match r, h with
  | [], _ => rfl
  | [_], _ => rfl
  | _ :: _ :: _, h => simp at h; omega
theorem rdT_cons (a b : UInt8) (r : Nm) (n : Nat) : rdT (a :: b :: r) (n + 1) = if r.length < num2 a b then none else (rdT (r.drop (num2 a b)) n).map fun p => (r.take (num2 a b) :: p.1, p.2) := by rw [rdT]
/-- one text more is read -/
theorem rdT_at {s : Nm} {j n : Nat} (h : j + 2 ≤ s.length) : rdT (s.drop j) (n + 1) = if s.length < j + 2 + num2 (s.getD j 0) (s.getD (j + 1) 0) then none else (rdT (s.drop (j + 2 + num2 (s.getD j 0) (s.getD (j + 1) 0))) n).map fun p => ((s.drop (j + 2)).take (num2 (s.getD j 0) (s.getD (j + 1) 0)) :: p.1, p.2) := by
  rw [drop_two h, rdT_cons, List.length_drop, List.drop_drop]
  by_cases hc : s.length - (j + 2) < num2 (s.getD j 0) (s.getD (j + 1) 0)
  · rw [if_pos hc, if_pos (by omega)]
  · rw [if_neg hc, if_neg (by omega)]
theorem mid_text (s : Nm) (a b : Nat) (x y : Int) (hx : x = (a : Int)) (hy : y = (b : Int)) (h1 : a ≤ b) (h2 : b ≤ s.length) (W : World) :
    (Instr.slice 9 (.string ⟨s.toArray⟩) (some (.int .i64 x)) (some (.int .i64 y)) none).run Tryd.prog W = .ok (txt ((s.drop a).take (b - a))) W := by
  have := run_slice_string (P := Tryd.prog) W 9 ⟨s.toArray⟩ .i64 .i64 x y Tryd.underlying9 (by omega) (by omega) (by simp [ByteArray.size]; omega)
  rw [show x.toNat = a by omega, show y.toNat = b by omega] at this
  rw [this]
  congr 2
  apply ByteArray.ext
  simp [ByteArray.data_extract]
set_option maxHeartbeats 4000000 in
set_option maxRecDepth 100000 in
/-- ref texts -/
theorem texts_any (s : Nm) (i many : Nat) (w : World) (hs : s.length ≤ 281474976710656) (hi : i ≤ s.length) (hi1 : 1 ≤ i) (hm : many ≤ 600) :
    Calls Tryd.prog 62 #[txt s, .int .i64 (i : Int), .int .i64 (many : Int)] w fun e w' => ∃ (q : Option Addr) (d : Nat) (z : Int), e = .returned (.tuple #[.slice q (lst (rdT (s.drop i) many)).length d, .int .i64 z]) ∧ Hid (Own w.heap.size w' (.slice q (lst (rdT (s.drop i) many)).length d) (lst (rdT (s.drop i) many)) ∧ (0 < z ↔ (rdT (s.drop i) many).isSome = true) ∧ Below w.heap.size w w') := by
  obtain ⟨RD, hRD⟩ : ∃ RD, RD = rdT (s.drop i) many := ⟨_, rfl⟩
  rw [← hRD]
  have HRD := hid hRD
  obtain ⟨T, hT⟩ : ∃ T : ByteArray, T = ⟨s.toArray⟩ := ⟨_, rfl⟩
  have hTs : T.size = s.length := by rw [hT]; simp [ByteArray.size]
  have hsz : (T.size : Int) ≤ 281474976710656 := by omega
  have hmz : (many : Int) ≤ 600 := by omega
  have HAt : Hid (∀ j, j ≤ s.length → ∀ W, Calls Tryd.prog 61 #[.string T, .int .i64 (j : Int)] W fun e w' => e = .returned (.int .i64 (at2 s j)) ∧ Hid (Below W.heap.size W w')) := fun j hj W => by rw [hT]; exact at_any s j W hs (by omega)
  have HSl : Hid (∀ (a b : Nat) (x y : Int), x = (a : Int) → y = (b : Int) → a ≤ b → b ≤ s.length → ∀ W, (Instr.slice 9 (.string T) (some (.int .i64 x)) (some (.int .i64 y)) none).run Tryd.prog W = .ok (txt ((s.drop a).take (b - a))) W) := fun a b x y h1 h2 h3 h4 W => by rw [hT]; exact mid_text s a b x y h1 h2 h3 h4 W
  have htx : txt s = .string T := by rw [hT]
  rw [htx]
  have HTs := hid hTs
  have HI0 := hid hi
  clear hRD hT htx hTs
  go_enter Tryd.func62, Tryd.ntmps62
  go_wp2_with fail
  go_loopw [1, 8, 9, 10] (fun v1 v8 v9 _ W => ∃ (j k : Nat) (q : Option Addr) (d : Nat) (acc : Row), v1 = .int .i64 j ∧ v8 = .slice q k d ∧ v9 = .int .i64 k ∧ k ≤ many ∧ j ≤ s.length ∧ Hid (i + 2 * k ≤ j) ∧ Hid (acc.length = k) ∧ Hid (RD = (rdT (s.drop j) (many - k)).map fun p => (acc ++ p.1, p.2)) ∧ Hid (Own w.heap.size W (.slice q k d) acc) ∧ Hid (Below w.heap.size w W)) (fun _ _ v9 _ _ => many - (intOf v9).toNat)
  case atStart => exact ⟨i, 0, none, 0, [], rfl, rfl, rfl, Nat.zero_le _, hi, Nat.le_refl _, rfl, by rw [Hid, HRD.out]; simp, World.ownsRow_nil _ _ _ _, Below.refl _ _⟩
  case round =>
    obtain ⟨j, k, q, d, acc, rfl, rfl, rfl, hk, hj, HJ, HL, HR, HO, HW⟩ := hrel
    have hTs := HTs.out
    have hjz : (j : Int) ≤ (T.size : Int) := by omega
    by_cases hlt : k < many
    · have hkz : (k : Int) < (many : Int) := by omega
      have HAj := hid (HAt.out j hj)
      by_cases h2 : j + 2 ≤ s.length
      · have hat : at2 s j = (num2 (s.getD j 0) (s.getD (j + 1) 0) : Int) := if_pos h2
        rw [hat] at HAj
        have HSt := hid (rdT_at (n := many - (k + 1)) h2)
        rw [show many - (k + 1) + 1 = many - k by omega] at HSt
        have hnl := num2_lt (s.getD j 0) (s.getD (j + 1) 0)
        obtain ⟨n, hn⟩ : ∃ n, n = num2 (s.getD j 0) (s.getD (j + 1) 0) := ⟨_, rfl⟩
        rw [← hn] at HAj HSt hnl
        clear hat hn
        have hnz : (n : Int) < 65536 := by omega
        have hj2 : (j : Int) + 2 ≤ (T.size : Int) := by omega
        by_cases hov : s.length < j + 2 + n
        · rw [if_pos hov] at HSt
          have HN : Hid (RD = none) := by rw [Hid, HR.out, HSt.out]; rfl
          have hoz : (T.size : Int) < (j : Int) + 2 + (n : Int) := by omega
          clear hTs
          go_wp2_with fail
          refine (HAj.out _).mono ?_; rintro e w1 ⟨rfl, hh⟩
          have HW1 := hid (HW.out.trans (hh.out.mono HW.out.size))
          clear hh
          go_wp2_with fail
          go_ret2
          rw [HN.out]
          exact ⟨none, 0, -1, rfl, World.ownsRow_nil _ _ _ _, by simp, HW1.out⟩
        · rw [if_neg hov] at HSt
          have hoz : (j : Int) + 2 + (n : Int) ≤ (T.size : Int) := by omega
          have hsl := HSl.out (j + 2) (j + 2 + n) ((j : Int) + 2) ((j : Int) + 2 + (n : Int)) (by omega) (by omega) (by omega) (by omega)
          rw [show j + 2 + n - (j + 2) = n by omega] at hsl
          generalize (s.drop (j + 2)).take n = t at *
          clear hTs
          go_wp2_with fail
          refine (HAj.out _).mono ?_; rintro e w1 ⟨rfl, hh⟩
          have HW1 := hid (HW.out.trans (hh.out.mono HW.out.size))
          have HO1 := hid (owns_below HO.out hh.out)
          clear hh
          have ho1 : Own w.heap.size w1 (.slice q k d) acc := HO1.out
          obtain ⟨v2, W2, hrun2, ho2, hb2⟩ := ho1.push HW1.out.size t (by have := HL.out; omega)
          obtain ⟨q2, d2, rfl, -⟩ := ho2.shape
          have hl2 : (acc ++ [t]).length = k + 1 := by rw [List.length_append, HL.out]; rfl
          rw [hl2] at hrun2 ho2
          have HL2 := hid hl2
          have HR2 := hid hrun2
          have HO2 := hid ho2
          have HW2 := hid (HW1.out.trans hb2)
          have HD2 : Hid (RD = (rdT (s.drop (j + 2 + n)) (many - (k + 1))).map fun p => ((acc ++ [t]) ++ p.1, p.2)) := by
            rw [Hid, HR.out, HSt.out, Option.map_map]
            congr 1
            funext p
            simp
          have HJ2 : Hid (i + 2 * (k + 1) ≤ j + 2 + n) := by have := HJ.out; show _ ≤ _; omega
          clear hrun2 ho2 hb2 hl2 ho1 hnz
          go_wp2_with (refine wpList_append_runs rfl _ _ 23 23 rfl _ _ _ _ rfl rfl HR2.out (Hid.out ?_))
          refine hid ?_
          go_wp2_with fail
          exact ⟨⟨j + 2 + n, k + 1, q2, d2, acc ++ [t], by go_num, rfl, by go_num, by omega, by omega, HJ2.out, HL2.out, HD2.out, HO2.out, HW2.out⟩, by simp [intOf]; omega⟩
      · rw [show at2 s j = -1 from if_neg h2] at HAj
        have HN : Hid (RD = none) := by
          have e : rdT (s.drop j) (many - (k + 1) + 1) = none := rdT_short (by simp; omega) _
          rw [show many - (k + 1) + 1 = many - k by omega] at e
          rw [Hid, HR.out, e]; rfl
        clear hTs
        go_wp2_with fail
        refine (HAj.out _).mono ?_; rintro e w1 ⟨rfl, hh⟩
        have HW1 := hid (HW.out.trans (hh.out.mono HW.out.size))
        clear hh
        go_wp2_with fail
        go_ret2
        rw [HN.out]
        exact ⟨none, 0, -1, rfl, World.ownsRow_nil _ _ _ _, by simp, HW1.out⟩
    · have hkm : k = many := by omega
      subst hkm
      have HN : Hid (RD = some (acc, s.drop j)) := by
        rw [Hid, HR.out, Nat.sub_self]
        show some (acc ++ [], _) = _
        rw [List.append_nil]
      have hl := HL.out
      clear hTs
      go_wp2_with fail
      go_ret2
      rw [HN.out]
      have HZ : Hid (0 < (j : Int)) := by have := HJ.out; show 0 < (j : Int); omega
      refine ⟨q, d, (j : Int), ?_, ?_, ⟨fun _ => rfl, fun _ => HZ.out⟩, HW.out⟩
      · show _ = Ending.returned (.tuple #[.slice q acc.length d, .int .i64 (j : Int)])
        rw [hl]; rfl
      · show Own _ _ (.slice q acc.length d) acc
        rw [hl]; exact HO.out

end Go.Proofs.YtmjmdfenkhmfbaaDoor
