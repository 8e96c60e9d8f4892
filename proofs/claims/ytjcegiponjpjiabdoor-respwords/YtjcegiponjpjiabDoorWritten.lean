/- What was written is read: plain mathematics. -/
import Derived.Test.YtjcegiponjpjiabDoorNumPure
import Derived.Test.YtjcegiponjpjiabDoorMono
import Derived.Test.YtjcegiponjpjiabDoorCommand
namespace Go.Proofs.YtjcegiponjpjiabDoor

theorem valGo_snoc : ∀ (a : List UInt8) (m : Nat) (d : UInt8), valGo m (a ++ [d]) = (valGo m a).bind fun v => if 48 ≤ d.toNat ∧ d.toNat ≤ 57 then some (v * 10 + (d.toNat - 48)) else none
  | [], m, d => by simp [valGo]
  | x :: a, m, d => by
    rw [List.cons_append]
    unfold valGo
    split
    · exact valGo_snoc a _ d
    · rfl
theorem dec_step {n : Nat} (h : ¬ n < 10) : dec n = dec (n / 10) ++ [UInt8.ofNat (48 + n % 10)] := by unfold dec; rw [Lib.decDigits, dif_neg h]
theorem dig_nat (k : Nat) (h : k < 10) : (UInt8.ofNat (48 + k)).toNat = 48 + k := by
  simp [UInt8.toNat_ofNat]
  omega
theorem val_dec (n : Nat) : valGo 0 (dec n) = some n := by
  induction n using Nat.strongRecOn with
  | ind n ih =>
    by_cases h : n < 10
    · rw [show dec n = _ from Lib.decDigits_one h]
      have := dig_nat n h
      simp only [valGo, this]
      rw [if_pos (by omega)]
      congr 1
      omega
    · rw [dec_step h, valGo_snoc, ih (n / 10) (by omega)]
      have := dig_nat (n % 10) (by omega)
      simp only [Option.bind_some, this]
      rw [if_pos (by omega)]
      congr 1
      omega
theorem dec_ne (n : Nat) : dec n ≠ [] := by
  by_cases h : n < 10
  · rw [show dec n = _ from Lib.decDigits_one h]; simp
  · rw [dec_step h]; simp
theorem head_dec (n : Nat) (hn : 0 < n) : (dec n).head? ≠ some 48 := by
  induction n using Nat.strongRecOn with
  | ind n ih =>
    by_cases h : n < 10
    · rw [show dec n = _ from Lib.decDigits_one h]
      intro e
      simp only [List.head?_cons, Option.some.injEq] at e
      have := congrArg UInt8.toNat e
      rw [dig_nat n h] at this
      have h48 : (48 : UInt8).toNat = 48 := rfl
      omega
    · rw [dec_step h, head_app (dec_ne _)]
      exact ih (n / 10) (by omega) (by omega)
theorem dec_digit (n : Nat) : ∀ d ∈ dec n, 48 ≤ d.toNat := by
  induction n using Nat.strongRecOn with
  | ind n ih =>
    by_cases h : n < 10
    · rw [show dec n = _ from Lib.decDigits_one h]
      intro d hd
      rw [List.mem_singleton] at hd
      rw [hd, dig_nat n h]; omega
    · rw [dec_step h]
      intro d hd
      rcases List.mem_append.1 hd with hd | hd
      · exact ih (n / 10) (by omega) d hd
      · rw [List.mem_singleton] at hd
        rw [hd, dig_nat _ (by omega)]; omega
/-- a line of a sign and a number -/
def numLine (c : UInt8) (n : Nat) : List UInt8 := [c] ++ dec n ++ [13, 10]
theorem numLine_len (c : UInt8) (n : Nat) : (numLine c n).length = (dec n).length + 3 := by simp [numLine]
theorem num_dec (c : UInt8) (n most : Nat) (h : n ≤ most) : num (numLine c n) most = some n := by
  have hd1 : (numLine c n).drop 1 = dec n ++ [13, 10] := by simp [numLine]
  have hs : Lib.hasSuffix ((numLine c n).drop 1) [13, 10] = true := by
    rw [hd1]
    unfold Lib.hasSuffix
    rw [List.isSuffixOf_iff_suffix]
    exact List.suffix_append _ _
  have hdg : digitsOf (numLine c n) = some (dec n) := by
    unfold digitsOf
    rw [if_pos hs, hd1, numLine_len, Nat.add_sub_cancel, List.take_append_of_le_length (Nat.le_refl _), List.take_length]
  unfold num
  rw [hdg]
  simp only
  rw [if_neg, numGo_val most (dec n) 0 (Nat.zero_le _), val_dec]
  · simp only [Option.bind_some]
    rw [if_neg (by omega)]
  · rintro (h1 | ⟨h1, h2⟩)
    · exact dec_ne n h1
    · by_cases hn : 0 < n
      · exact head_dec n hn h2
      · obtain rfl : n = 0 := by omega
        rw [show dec 0 = _ from Lib.decDigits_one (by decide)] at h1
        simp at h1
theorem line_num (c : UInt8) (n : Nat) (t : List UInt8) (hc : c ≠ 10) (hl : (dec n).length ≤ 30) : lineAt (numLine c n ++ t) = some ((dec n).length + 2) := by
  have hn : numLine c n = ([c] ++ dec n ++ [13]) ++ [10] := by simp [numLine]
  have hl1 : ([c] ++ dec n ++ [13]).length = (dec n).length + 2 := by simp
  refine lineAt_some ?_ (by omega) fun j hj => ?_
  · rw [List.getElem?_append_left (by rw [numLine_len]; omega), hn, List.getElem?_append_right (by omega), hl1]
    simp
  · rw [List.getElem?_append_left (by rw [numLine_len]; omega), hn, List.getElem?_append_left (by omega)]
    intro e
    have hm := List.mem_of_getElem? e
    simp only [List.mem_append, List.mem_singleton] at hm
    rcases hm with (hm | hm) | hm
    · exact hc hm.symm
    · have := dec_digit n 10 hm
      simp at this
    · exact absurd hm (by decide)
theorem end_item (x t : List UInt8) : endVal (x ++ [13, 10] ++ t) x.length = 0 := by
  have hd : (x ++ [13, 10] ++ t).drop x.length = [13, 10] ++ t := by rw [List.append_assoc, List.drop_left]
  refine endVal_ok (by simp) ?_ (by simp)
  rw [hd]; rfl
theorem bulk_item (x t : List UInt8) (hx : x.length ≤ 1024) : bulk (item x ++ t) = .got [x] t := by
  have hl := dec_short x.length (by omega)
  have e1 : item x ++ t = numLine 36 x.length ++ (x ++ [13, 10] ++ t) := by simp [item, numLine]
  have hnl := numLine_len 36 x.length
  rw [e1]
  have hline := line_num 36 x.length (x ++ [13, 10] ++ t) (by decide) hl
  have ht : (numLine 36 x.length ++ (x ++ [13, 10] ++ t)).take ((dec x.length).length + 2 + 1) = numLine 36 x.length := by
    rw [List.take_append_of_le_length (by omega), List.take_of_length_le (by omega)]
  have hdr : (numLine 36 x.length ++ (x ++ [13, 10] ++ t)).drop ((dec x.length).length + 2 + 1) = x ++ [13, 10] ++ t := by
    rw [show (dec x.length).length + 2 + 1 = (numLine 36 x.length).length by omega, List.drop_left]
  have hhead : (numLine 36 x.length ++ (x ++ [13, 10] ++ t)).head? = some 36 := rfl
  have hnd := num_dec 36 x.length 1024 hx
  have hse : sizeErr (numLine 36 x.length ++ (x ++ [13, 10] ++ t)) = 0 := by
    unfold sizeErr
    rw [if_neg (by rw [hhead]; simp), hline]
    simp only
    rw [ht, hnd]
  rw [bulk_good hse hline (by rw [ht]; exact hnd), hdr, if_pos (end_item x t)]
  congr 1
  · rw [List.append_assoc, List.take_left]
  · rw [List.append_assoc, ← List.drop_drop, List.drop_left]; rfl
theorem bulks_items (t : List UInt8) : ∀ (l acc : List (List UInt8)), (∀ x ∈ l, x.length ≤ 1024) → bulks l.length acc ((l.map item).flatten ++ t) = .got (acc ++ l) t
  | [], acc, _ => by simp [bulks]
  | x :: l, acc, h => by
    rw [List.map_cons, List.flatten_cons, List.length_cons, List.append_assoc]
    unfold bulks
    rw [bulk_item x _ (h x (by simp))]
    simp only
    rw [bulks_items t l (acc ++ [x]) (fun y hy => h y (by simp [hy]))]
    simp
/-- a command that was written is read -/
theorem one_cmd (l : List (List UInt8)) (t : List UInt8) (hl : l.length ≤ 32) (hx : ∀ x ∈ l, x.length ≤ 1024) : one (cmd l ++ t) = .got l t := by
  have hd := dec_short l.length (by omega)
  have e1 : cmd l ++ t = numLine 42 l.length ++ ((l.map item).flatten ++ t) := by simp [cmd, cmdTo, numLine]
  have hnl := numLine_len 42 l.length
  have hline := line_num 42 l.length ((l.map item).flatten ++ t) (by decide) hd
  have hhead : (numLine 42 l.length ++ ((l.map item).flatten ++ t)).head? = some 42 := rfl
  rw [e1, one_star hline hhead]
  have ht : (numLine 42 l.length ++ ((l.map item).flatten ++ t)).take ((dec l.length).length + 2 + 1) = numLine 42 l.length := by
    rw [List.take_append_of_le_length (by omega), List.take_of_length_le (by omega)]
  have hdr : (numLine 42 l.length ++ ((l.map item).flatten ++ t)).drop ((dec l.length).length + 2 + 1) = (l.map item).flatten ++ t := by
    rw [show (dec l.length).length + 2 + 1 = (numLine 42 l.length).length by omega, List.drop_left]
  rw [ht, num_dec 42 l.length 32 hl, hdr]
  simp only
  rw [bulks_items t l [] hx]
  rfl
/-- commands, one behind the other -/
theorem runs_cmds : ∀ L : List (List (List UInt8)), (∀ l ∈ L, l ≠ [] ∧ l.length ≤ 32 ∧ ∀ x ∈ l, x.length ≤ 1024) → Runs ((L.map cmd).flatten) L [] 0
  | [], _ => .more (by kernel_rfl)
  | l :: L, h => by
    rw [List.map_cons, List.flatten_cons]
    obtain ⟨h1, h2, h3⟩ := h l (by simp)
    exact .some (one_cmd l _ h2 h3) h1 (runs_cmds L fun m hm => h m (by simp [hm]))

end Go.Proofs.YtjcegiponjpjiabDoor
