/- A line at a text's front: mayBegin, cutLine; a number: readNumber. -/
import Derived.Test.YtngkbacnajgmcaaDoorAppend
namespace Go.Proofs.YtngkbacnajgmcaaDoor
open Go.RowKit

/-- how texts are cut -/
theorem str_to (l : List UInt8) (n : Nat) (W : World) (h : n ≤ l.length) : (Instr.slice 9 (.string ⟨l.toArray⟩) none (some (.int .i64 (n : Int))) none).run Tryd.prog W = .ok (.string ⟨(l.take n).toArray⟩) W := by
  rw [run_slice_string_h (P := Tryd.prog) W 9 ⟨l.toArray⟩ Tryd.underlying9 .i64 n (by omega) (by simp [ByteArray.size]; omega), ByteArray.extract_mk]
  simp
theorem str_from (l : List UInt8) (n : Nat) (W : World) (h : n ≤ l.length) : (Instr.slice 9 (.string ⟨l.toArray⟩) (some (.int .i64 (n : Int))) none none).run Tryd.prog W = .ok (.string ⟨(l.drop n).toArray⟩) W := by
  rw [run_slice_string_l (P := Tryd.prog) W 9 ⟨l.toArray⟩ Tryd.underlying9 .i64 n (by omega) (by simp [ByteArray.size]; omega), ByteArray.extract_mk]
  simp [ByteArray.size, List.take_of_length_le]
theorem str_mid (l : List UInt8) (a b : Nat) (W : World) (h0 : a ≤ b) (h : b ≤ l.length) : (Instr.slice 9 (.string ⟨l.toArray⟩) (some (.int .i64 (a : Int))) (some (.int .i64 (b : Int))) none).run Tryd.prog W = .ok (.string ⟨((l.drop a).take (b - a)).toArray⟩) W := by
  rw [run_slice_string (P := Tryd.prog) W 9 ⟨l.toArray⟩ .i64 .i64 a b Tryd.underlying9 (by omega) (by omega) (by simp [ByteArray.size]; omega), ByteArray.extract_mk]
  simp
theorem byte_eq (c : UInt8) (k : Nat) (x : UInt8) (hx : x.toNat = k) : ((c.toNat : Int) == (k : Int)) = (c == x) := by
  by_cases h : c = x
  · subst h; simp [hx]
  · have h2 : ¬ c.toNat = x.toNat := fun e => h (UInt8.toNat_inj.1 e)
    rw [hx] at h2
    have h1 : (c == x) = false := beq_eq_false_iff_ne.2 h
    rw [h1]
    exact beq_eq_false_iff_ne.2 (by omega)
set_option maxHeartbeats 1000000 in
set_option maxRecDepth 100000 in
/-- mayBegin -/
theorem mayBegin_any (c : UInt8) (z : Int) (room : Nat) (w : World) (hz : z = (c.toNat : Int)) (hr : room ≤ 100) :
    Calls Tryd.prog 41 #[.int .u8 z, .int .i64 room] w fun e w' => e = .returned (.bool (may c room)) ∧ w' = w := by
  have e42 : (z == 42) = (c == 42) := by rw [hz]; exact byte_eq c 42 42 rfl
  have e43 : (z == 43) = (c == 43) := by rw [hz]; exact byte_eq c 43 43 rfl
  have e45 : (z == 45) = (c == 45) := by rw [hz]; exact byte_eq c 45 45 rfl
  have e58 : (z == 58) = (c == 58) := by rw [hz]; exact byte_eq c 58 58 rfl
  have e36 : (z == 36) = (c == 36) := by rw [hz]; exact byte_eq c 36 36 rfl
  obtain ⟨V, hV⟩ : ∃ V, V = may c room := ⟨_, rfl⟩
  rw [← hV]
  unfold may at hV
  by_cases h42 : c = 42
  · subst h42
    have e : (z == 42) = true := e42
    clear e42 e43 e45 e58 e36
    by_cases h0 : room = 0
    · subst h0
      obtain rfl : V = false := hV
      clear hz hr
      go_enter Tryd.func41, Tryd.ntmps41
      go_wp2
      (try simp only [Exit.noGoto, Exit.inBlock, Exit.then])
      go_ret
      exact ⟨rfl, rfl⟩
    · obtain rfl : V = true := by rw [hV]; simp [h0]
      have h0z : ((room : Int) == 0) = false := beq_eq_false_iff_ne.2 (by omega)
      clear hV hz hr h0
      go_enter Tryd.func41, Tryd.ntmps41
      go_wp2
      (try simp only [Exit.noGoto, Exit.inBlock, Exit.then])
      go_ret
      exact ⟨rfl, rfl⟩
  · have b42 : (c == 42) = false := beq_eq_false_iff_ne.2 h42
    rw [b42] at e42 hV
    simp only [Bool.false_and, Bool.or_false] at hV
    clear hz h42 b42
    cases h43 : c == 43
    · rw [h43] at e43 hV
      cases h45 : c == 45
      · rw [h45] at e45 hV
        cases h58 : c == 58
        · rw [h58] at e58 hV
          cases h36 : c == 36
          · rw [h36] at e36 hV
            obtain rfl : V = false := hV
            clear h43 h45 h58 h36
            go_enter Tryd.func41, Tryd.ntmps41
            go_wp2
            (try simp only [Exit.noGoto, Exit.inBlock, Exit.then])
            go_ret
            exact ⟨rfl, rfl⟩
          · rw [h36] at e36 hV
            obtain rfl : V = true := hV
            clear h43 h45 h58 h36
            go_enter Tryd.func41, Tryd.ntmps41
            go_wp2
            (try simp only [Exit.noGoto, Exit.inBlock, Exit.then])
            go_ret
            exact ⟨rfl, rfl⟩
        · rw [h58] at e58 hV
          obtain rfl : V = true := by rw [hV]; simp
          clear hV h43 h45 h58
          go_enter Tryd.func41, Tryd.ntmps41
          go_wp2
          (try simp only [Exit.noGoto, Exit.inBlock, Exit.then])
          go_ret
          exact ⟨rfl, rfl⟩
      · rw [h45] at e45 hV
        obtain rfl : V = true := by rw [hV]; simp
        clear hV h43 h45
        go_enter Tryd.func41, Tryd.ntmps41
        go_wp2
        (try simp only [Exit.noGoto, Exit.inBlock, Exit.then])
        go_ret
        exact ⟨rfl, rfl⟩
    · rw [h43] at e43 hV
      obtain rfl : V = true := by rw [hV]; simp
      clear hV h43
      go_enter Tryd.func41, Tryd.ntmps41
      go_wp2
      (try simp only [Exit.noGoto, Exit.inBlock, Exit.then])
      go_ret
      exact ⟨rfl, rfl⟩
/-- what cutLine tells -/
def cutVal (s : List UInt8) : Cut → Value
  | .ok line rest => .tuple #[.string ⟨line.toArray⟩, .string ⟨rest.toArray⟩, .int .i64 0]
  | .bad x => .tuple #[.string ⟨#[]⟩, .string ⟨s.toArray⟩, .int .i64 x]
theorem index_run (l : List UInt8) (w : World) : Calls Tryd.prog 42 #[.string ⟨l.toArray⟩, .int .u8 10] w fun e w' => e = .returned (.int .i64 (Lib.indexByte l 10)) ∧ w' = w := Tryd.strings_IndexByte ⟨l.toArray⟩ 10 w
theorem cutSuffix_run (l : List UInt8) (w : World) (h : l.length ≤ 9223372036854775807) : Calls Tryd.prog 43 #[.string ⟨l.toArray⟩, .string ⟨#[13, 10]⟩] w fun e w' => e = .returned (.tuple #[.string ⟨(Lib.trimSuffix l [13, 10]).toArray⟩, .bool (Lib.hasSuffix l [13, 10])]) ∧ w' = w := Tryd.strings_CutSuffix ⟨l.toArray⟩ ⟨#[13, 10]⟩ w (by simpa [ByteArray.size] using h)
theorem cutLn_nil (room : Nat) : cutLn [] room = .bad 40 := rfl
theorem cutLn_may {s : List UInt8} {room : Nat} (h0 : 0 < s.length) (h : may s[0] room = false) : cutLn s room = .bad 41 := by
  cases s with
  | nil => simp at h0
  | cons c t => unfold cutLn; simp only [List.getElem_cons_zero] at h; simp only [h]; rfl
theorem cutLn_long {s : List UInt8} {room : Nat} (h0 : 0 < s.length) (h : may s[0] room = true) (hi : Lib.indexByte (s.take 512) 10 < 0) (hl : 512 ≤ s.length) : cutLn s room = .bad 41 := by
  cases s with
  | nil => simp at h0
  | cons c t => unfold cutLn; simp only [List.getElem_cons_zero] at h; simp only [h, if_true]; rw [if_pos hi, if_pos hl]
theorem cutLn_short {s : List UInt8} {room : Nat} (h0 : 0 < s.length) (h : may s[0] room = true) (hi : Lib.indexByte (s.take 512) 10 < 0) (hl : ¬ 512 ≤ s.length) : cutLn s room = .bad 40 := by
  cases s with
  | nil => simp at h0
  | cons c t => unfold cutLn; simp only [List.getElem_cons_zero] at h; simp only [h, if_true]; rw [if_pos hi, if_neg hl]
theorem cutLn_end {s : List UInt8} {room i : Nat} (h0 : 0 < s.length) (h : may s[0] room = true) (hi : Lib.indexByte (s.take 512) 10 = (i : Int)) (hs : Lib.hasSuffix (s.take (i + 1)) [13, 10] = false) : cutLn s room = .bad 41 := by
  cases s with
  | nil => simp at h0
  | cons c t => unfold cutLn; simp only [List.getElem_cons_zero] at h; simp only [h, if_true, hi, Int.toNat_natCast]; rw [if_neg (by omega), hs]; rfl
theorem cutLn_got {s : List UInt8} {room i : Nat} (h0 : 0 < s.length) (h : may s[0] room = true) (hi : Lib.indexByte (s.take 512) 10 = (i : Int)) (hs : Lib.hasSuffix (s.take (i + 1)) [13, 10] = true) : cutLn s room = .ok (s.take (i - 1)) (s.drop (i + 1)) := by
  cases s with
  | nil => simp at h0
  | cons c t => unfold cutLn; simp only [List.getElem_cons_zero] at h; simp only [h, if_true, hi, Int.toNat_natCast]; rw [if_neg (by omega), if_pos hs]
theorem ex_to (s : List UInt8) (n : Nat) : (⟨s.toArray⟩ : ByteArray).extract 0 n = ⟨(s.take n).toArray⟩ := by rw [ByteArray.extract_mk]; simp
theorem ex_from (s : List UInt8) (n : Nat) : (⟨s.toArray⟩ : ByteArray).extract n s.length = ⟨(s.drop n).toArray⟩ := by rw [ByteArray.extract_mk, List.take_of_length_le (by simp)]
set_option maxHeartbeats 2000000 in
set_option maxRecDepth 100000 in
/-- cutLine -/
theorem cutLine_any (s : List UInt8) (room : Nat) (w : World) (hr : room ≤ 100) (hs : s.length ≤ 281474976710656) :
    Calls Tryd.prog 31 #[.string ⟨s.toArray⟩, .int .i64 room] w fun e w' => e = .returned (cutVal s (cutLn s room)) ∧ Hid (Below w.heap.size w w') := by
  by_cases h0 : s = []
  · subst h0
    rw [cutLn_nil]
    go_enter Tryd.func31, Tryd.ntmps31
    go_wp2
    go_ret3
    exact ⟨rfl, Below.refl _ _⟩
  · have hse : s.isEmpty = false := by simp [h0]
    have hs0 : 0 < s.length := List.length_pos_iff.2 h0
    clear h0
    obtain ⟨C, hC⟩ : ∃ C, C = cutVal s (cutLn s room) := ⟨_, rfl⟩
    rw [← hC]
    have HM := hid fun w => mayBegin_any s[0] _ room w rfl hr
    cases hm : may s[0] room
    · rw [cutLn_may hs0 hm] at hC
      have HC := hid hC
      rw [hm] at HM
      clear hm hC
      go_enter Tryd.func31, Tryd.ntmps31
      go_wp2_with fail
      refine (HM.out _).mono ?_; rintro e w' ⟨rfl, rfl⟩
      go_wp2
      go_ret3
      exact ⟨by rw [HC.out]; rfl, Below.refl _ _⟩
    · rw [hm] at HM
      have HX := hid fun w => index_run (s.take 512) w
      have hex1 : (⟨s.toArray⟩ : ByteArray).extract 0 (min (s.length : Int) 512).toNat = ⟨(s.take 512).toArray⟩ := by
        rw [ex_to, show (min (s.length : Int) 512).toNat = min s.length 512 by omega]
        by_cases h : s.length ≤ 512
        · rw [Nat.min_eq_left h, List.take_of_length_le (Nat.le_refl _), List.take_of_length_le h]
        · rw [Nat.min_eq_right (by omega)]
      have hcs := index_cases 10 (s.take 512)
      obtain ⟨I, hI⟩ : ∃ I, I = Lib.indexByte (s.take 512) 10 := ⟨_, rfl⟩
      rw [← hI] at HX hcs
      by_cases hn : I < 0
      · obtain rfl : I = -1 := by
          rcases hcs with h | ⟨p, r, _, _, h⟩
          · exact h.1
          · omega
        clear hn hcs
        by_cases hl : 512 ≤ s.length
        · rw [cutLn_long hs0 hm (by rw [← hI]; decide) hl] at hC
          have HC := hid hC
          have hlz : (512 : Int) ≤ (s.length : Int) := by omega
          clear hm hC hI hl
          go_enter Tryd.func31, Tryd.ntmps31
          go_wp2_with fail
          refine (HM.out _).mono ?_; rintro e w' ⟨rfl, rfl⟩
          go_wp2_with fail
          refine (HX.out _).mono ?_; rintro e w' ⟨rfl, rfl⟩
          go_wp2_with fail
          go_ret3
          exact ⟨by rw [HC.out]; rfl, Below.refl _ _⟩
        · rw [cutLn_short hs0 hm (by rw [← hI]; decide) hl] at hC
          have HC := hid hC
          have hlz : ¬ (512 : Int) ≤ (s.length : Int) := by omega
          clear hm hC hI hl
          go_enter Tryd.func31, Tryd.ntmps31
          go_wp2_with fail
          refine (HM.out _).mono ?_; rintro e w' ⟨rfl, rfl⟩
          go_wp2_with fail
          refine (HX.out _).mono ?_; rintro e w' ⟨rfl, rfl⟩
          go_wp2_with fail
          go_ret3
          exact ⟨by rw [HC.out]; rfl, Below.refl _ _⟩
      · obtain ⟨p, r, hp1, hp2, hp3⟩ : ∃ p r, s.take 512 = p ++ 10 :: r ∧ 10 ∉ p ∧ I = (p.length : Int) := by
          rcases hcs with h | h
          · omega
          · exact h
        obtain ⟨i, hi⟩ : ∃ i, i = p.length := ⟨_, rfl⟩
        rw [← hi] at hp3
        have hil : i + 1 ≤ s.length := by
          have := congrArg List.length hp1
          simp at this
          omega
        subst hp3
        have hex2 : (⟨s.toArray⟩ : ByteArray).extract 0 (i + 1) = ⟨(s.take (i + 1)).toArray⟩ := ex_to s (i + 1)
        have hex3 : (⟨s.toArray⟩ : ByteArray).extract (i + 1) s.length = ⟨(s.drop (i + 1)).toArray⟩ := ex_from s (i + 1)
        have hex4 : ((i : Int) + 1).toNat = i + 1 := by omega
        have hilz : (i : Int) + 1 ≤ (s.length : Int) := by omega
        have hi0 : ¬ (i : Int) < 0 := by omega
        have HS := hid fun w => cutSuffix_run (s.take (i + 1)) w (by simp; omega)
        clear hcs hp1 hp2 hi hn
        cases hsf : Lib.hasSuffix (s.take (i + 1)) [13, 10]
        · rw [cutLn_end hs0 hm hI.symm hsf] at hC
          have HC := hid hC
          rw [hsf] at HS
          clear hm hC hI hsf
          go_enter Tryd.func31, Tryd.ntmps31
          go_wp2_with fail
          refine (HM.out _).mono ?_; rintro e w' ⟨rfl, rfl⟩
          go_wp2_with fail
          refine (HX.out _).mono ?_; rintro e w' ⟨rfl, rfl⟩
          go_wp2_with fail
          refine (HS.out _).mono ?_; rintro e w' ⟨rfl, rfl⟩
          go_wp2_with fail
          go_ret3
          exact ⟨by rw [HC.out]; rfl, Below.refl _ _⟩
        · rw [cutLn_got hs0 hm hI.symm hsf] at hC
          have HC := hid hC
          rw [hsf] at HS
          have htr : Lib.trimSuffix (s.take (i + 1)) [13, 10] = s.take (i - 1) := by
            unfold Lib.trimSuffix
            rw [if_pos hsf, List.take_take]
            congr 1
            simp
            omega
          rw [htr] at HS
          clear hm hC hI hsf htr
          go_enter Tryd.func31, Tryd.ntmps31
          go_wp2_with fail
          refine (HM.out _).mono ?_; rintro e w' ⟨rfl, rfl⟩
          go_wp2_with fail
          refine (HX.out _).mono ?_; rintro e w' ⟨rfl, rfl⟩
          go_wp2_with fail
          refine (HS.out _).mono ?_; rintro e w' ⟨rfl, rfl⟩
          go_wp2_with fail
          go_region
          all_goals go_wp2_with fail
          all_goals go_ret3
          all_goals exact ⟨by rw [HC.out]; rfl, rfl, rfl, rfl, Nat.le_refl _, fun _ _ => rfl⟩

end Go.Proofs.YtngkbacnajgmcaaDoor
