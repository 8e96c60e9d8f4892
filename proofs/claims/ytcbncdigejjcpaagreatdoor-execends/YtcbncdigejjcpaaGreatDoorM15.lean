/- ShelfN, PtB, PtWhole, PtCplx, PtNeg, PtAnd, PtMeth, PtPos, PtPos2, PtTurn, PtPos3, PtEnv, NuCore, NuDigs, NuNeg, NuBase, NuParseP, DkLay, DkRange. -/
import Derived.Test.YtcbncdigejjcpaaGreatDoorProg
import Derived.Shelf.Small.Utf8
import Derived.Shelf.Small.Strs
import Derived.Shelf.Small.Wraps
import Derived.Shelf.LaysM
import Derived.Shelf.Strconv.Itoa3
import Derived.Shelf.LaysC
import Derived.Shelf.Strconv.AtoiAll
import Derived.Shelf.Strconv.ErrVarAll
import Derived.Shelf.Strings.Runes
import Derived.Shelf.Strings.IndexAny
import Derived.Shelf.Strings.AsciiSet
import Derived.Shelf.Unicode.DecodeLast
import Derived.WalkLawsBesides
import Derived.Deep.WholeRow
import Derived.Deep.RegionLaw
import Derived.Test.YtcbncdigejjcpaaGreatDoorM03
import Derived.Test.YtcbncdigejjcpaaGreatDoorM10
import Derived.Laws.ComplexArith
import Derived.Lib.ItoaNum
import Derived.Lib.ItoaMem
import Derived.Lib.ItoaLen
import Derived.Laws.OwnMore
import Derived.Laws.Strings2
import Derived.WalkKit
import Derived.Below
import Derived.RowKit
import Derived.Laws.Runes
import Derived.Laws.RangeAny
import Derived.Lib.OthersKept
import Derived.Deep.LoopGhost
import Derived.Deep.QuietTactic
import Derived.Laws.CopyOwn
import Derived.Laws.MakeOwn
namespace Go.Proofs.YtcbncdigejjcpaaGreatDoor
open Go.Shelf
def Tryz.lays103_ren : Go.Shelf.Ren := ⟨fun | 103 => 164 | 210 => 210 | 206 => 246 | n => n, fun | 9 => 9 | 4 => 4 | 24 => 125 | 3 => 3 | n => n, fun | n => n⟩
theorem Tryz.lays103 : Go.Proofs.Lays.n103 Tryz.prog Tryz.lays103_ren := {
  mixed := by kernel_rfl
  f103 := Tryz.func164.trans (congrArg some (by kernel_rfl))
  f206 := Tryz.func246.trans (congrArg some (by kernel_rfl))
  f210 := Tryz.func210.trans (congrArg some (by kernel_rfl))
  t3 := Tryz.underlying3
  a3 := Tryz.isAgg3
  z3 := Tryz.sizeOf3
  v3 := Tryz.zeroValue3
  t4 := Tryz.underlying4
  a4 := Tryz.isAgg4
  z4 := Tryz.sizeOf4
  v4 := Tryz.zeroValue4
  t9 := Tryz.underlying9
  a9 := Tryz.isAgg9
  z9 := Tryz.sizeOf9
  v9 := Tryz.zeroValue9
  t24 := Tryz.underlying125
  a24 := Tryz.isAgg125
  z24 := Tryz.sizeOf125
  v24 := Tryz.zeroValue125 }
open Go.RowKit in
theorem Tryz.strings_CutPrefix (s p : ByteArray) (w : World) :
    Calls Tryz.prog 164 #[.string s, .string p] w fun e w' => e = .returned (.tuple #[.string ⟨(Lib.trimPrefix s.data.toList p.data.toList).toArray⟩, .bool (Lib.hasPrefix s.data.toList p.data.toList)]) ∧ w' = w := Any.strings_CutPrefix Tryz.lays103 s p w
end Go.Proofs.YtcbncdigejjcpaaGreatDoor

namespace Go.Proofs.YtcbncdigejjcpaaGreatDoor.Num.Pt
open Go.RowKit

/-- a point's value -/
abbrev pv (x y : Int) : Value := .agg #[.int .i64 x, .int .i64 y]
/-- a point in a block -/
abbrev pc (x y : Int) : Obj := .cells #[.int .i64 x, .int .i64 y] 47
theorem infoP (x y : Value) : (Tryz.prog.info? 47).map (·.size) = some (#[x, y] : Array Value).size := by
  show _ = some 2
  kernel_rfl
theorem pt_facts {w : World} {b : Nat} {x y : Value} (h : w.heap[b]? = some (.cells #[x, y] 47 (0, 0))) :
    (w.cell? ⟨b, 0, none⟩ = some x ∧ w.cell? ⟨b, 1, none⟩ = some y) ∧ w.frozen? ⟨b, 0, none⟩ = false ∧ w.frozen? ⟨b, 1, none⟩ = false :=
  ⟨⟨cell_of_row w b 0 _ _ _ h, cell_of_row w b 1 _ _ _ h⟩, frozen_of_row w b 0 _ _ h, frozen_of_row w b 1 _ _ h⟩
/-- an answer's value -/
abbrev tv (t : Tel) : Value := .tuple #[pv t.x t.y, .int .i64 t.e]
end Go.Proofs.YtcbncdigejjcpaaGreatDoor.Num.Pt

namespace Go.Proofs.YtcbncdigejjcpaaGreatDoor.Num.Pt
open Ieee

/-- a datum is this whole number (a zero may have either sign) -/
def Val (d : Datum) (n : Int) : Prop := ∃ (s : Bool) (m q : Nat), d = .number s m (-(q : Int)) ∧ m = n.natAbs * 2 ^ q ∧ (n < 0 → s = true) ∧ (0 < n → s = false)
theorem signed_val {s : Bool} {n : Int} (k : Nat) (h1 : n < 0 → s = true) (h2 : 0 < n → s = false) (m : Nat) (q : Nat) (hm : m = n.natAbs * 2 ^ q) : signed s m k = n * 2 ^ (q + k) := by
  unfold signed
  rw [Nat.shiftLeft_eq, hm]
  rcases Int.lt_trichotomy n 0 with h | h | h
  · rw [if_pos (h1 h)]
    have e : ((n.natAbs : Nat) : Int) = -n := by omega
    rw [Int.natCast_mul, Int.natCast_mul, e, Int.natCast_pow, Int.natCast_pow, Int.pow_add, Int.neg_mul, Int.neg_mul, Int.neg_neg]
    simp [Int.mul_assoc]
  · subst h
    cases s <;> simp
  · rw [h2 h]
    have e : ((n.natAbs : Nat) : Int) = n := by omega
    rw [if_neg (by simp), Int.natCast_mul, Int.natCast_mul, e, Int.natCast_pow, Int.natCast_pow, Int.pow_add]
    simp [Int.mul_assoc]
theorem Val.sum {d e : Datum} {a b : Int} (h : Val d a) (k : Val e b) : ∃ f, d.sum e = some f ∧ Val f (a + b) := by
  obtain ⟨s, m, q, rfl, hm, h1, h2⟩ := h
  obtain ⟨t, n, r, rfl, hn, k1, k2⟩ := k
  refine ⟨_, rfl, ?_⟩
  obtain ⟨Q, hQ⟩ : ∃ Q : Nat, Q = max q r := ⟨_, rfl⟩
  have hb : min (-(q : Int)) (-(r : Int)) = -(Q : Int) := by omega
  rw [hb, signed_val _ h1 h2 m q hm, signed_val _ k1 k2 n r hn]
  rw [show q + (-(q : Int) - -(Q : Int)).toNat = Q by omega, show r + (-(r : Int) - -(Q : Int)).toNat = Q by omega, ← Int.add_mul]
  have hp : (0 : Int) < 2 ^ Q := by exact_mod_cast Nat.two_pow_pos Q
  refine ⟨_, _, Q, rfl, ?_, fun hn => ?_, fun hn => ?_⟩
  · rw [Int.natAbs_mul, Int.natAbs_pow]; rfl
  · have : (a + b) * 2 ^ Q < 0 := Int.mul_neg_of_neg_of_pos hn hp
    rw [if_neg (by omega)]; exact decide_eq_true this
  · have : 0 < (a + b) * 2 ^ Q := Int.mul_pos hn hp
    rw [if_neg (by omega)]; exact decide_eq_false (by omega)
theorem Val.opposite {d : Datum} {a : Int} (h : Val d a) : Val d.opposite (-a) := by
  obtain ⟨s, m, q, rfl, hm, h1, h2⟩ := h
  exact ⟨!s, m, q, rfl, by rw [Int.natAbs_neg]; exact hm, fun h => by rw [h2 (by omega)]; rfl, fun h => by rw [h1 (by omega)]; rfl⟩
theorem cut_exact (s : Bool) (K drop : Nat) (hK : 0 < K) : Toward.even.cut s (K * 2 ^ drop) drop = K := by
  unfold Toward.cut
  have hl : drop ≤ (K * 2 ^ drop).log2 + 2 := by
    have : drop ≤ (K * 2 ^ drop).log2 := (Nat.le_log2 (by have := Nat.two_pow_pos drop; exact Nat.ne_of_gt (Nat.mul_pos hK this))).2 (Nat.le_mul_of_pos_left _ hK)
    omega
  rw [Nat.min_eq_left hl]
  have hg : (1 : Nat) <<< drop = 2 ^ drop := by rw [Nat.shiftLeft_eq, Nat.one_mul]
  have hp := Nat.two_pow_pos drop
  simp only [hg, Nat.mul_mod_left, Nat.mul_div_cancel _ hp, Nat.mul_zero]
  have h1 : decide (2 ^ drop < 0) = false := by simp
  have h2 : (2 ^ drop == 0) = false := by simp
  rw [h1, h2]
  rfl
theorem double_nums : double.leastPlace = -1074 ∧ double.binade = 4503599627370496 ∧ double.infRung = 9218868437227405312 ∧ double.signWeight = 9223372036854775808 ∧ double.fractionBits = 52 := by
  refine ⟨by decide, by decide, by decide, by decide, rfl⟩
theorem log2_mul (N q : Nat) (h : 0 < N) : (N * 2 ^ q).log2 = N.log2 + q := by
  have hp := Nat.two_pow_pos q
  have hne : N * 2 ^ q ≠ 0 := Nat.ne_of_gt (Nat.mul_pos h hp)
  have h1 := Nat.log2_self_le (n := N) (by omega)
  have h2 := Nat.lt_log2_self (n := N)
  apply Nat.le_antisymm
  · apply Nat.le_of_lt_succ
    rw [Nat.log2_lt hne, show (N.log2 + q).succ = N.log2 + 1 + q by omega, Nat.pow_add]
    exact Nat.mul_lt_mul_of_pos_right h2 hp
  · rw [Nat.le_log2 hne, Nat.pow_add]
    exact Nat.mul_le_mul_right _ h1
/-- a whole number below 2^53, written and read -/
theorem write_read (s : Bool) (N q : Nat) (h : 0 < N) (hN : N < 9007199254740992) : double.read (double.write (.number s (N * 2 ^ q) (-(q : Int)))) = .number s (N * 2 ^ (52 - N.log2)) (-((52 - N.log2 : Nat) : Int)) := by
  obtain ⟨c1, c2, c3, c4, c5⟩ := double_nums
  have hne : N * 2 ^ q ≠ 0 := Nat.ne_of_gt (Nat.mul_pos h (Nat.two_pow_pos q))
  obtain ⟨L, hL⟩ : ∃ L, L = N.log2 := ⟨_, rfl⟩
  have hL52 : L ≤ 52 := by
    have : N.log2 < 53 := (Nat.log2_lt (by omega)).2 (by simpa using hN)
    omega
  have h1 : 2 ^ L ≤ N := by rw [hL]; exact Nat.log2_self_le (by omega)
  have h2 : N < 2 ^ (L + 1) := by rw [hL]; exact Nat.lt_log2_self
  obtain ⟨K, hK⟩ : ∃ K, K = N * 2 ^ (52 - L) := ⟨_, rfl⟩
  have hK1 : 4503599627370496 ≤ K := by
    have : 2 ^ L * 2 ^ (52 - L) ≤ K := by rw [hK]; exact Nat.mul_le_mul_right _ h1
    rw [← Nat.pow_add, show L + (52 - L) = 52 by omega] at this
    simpa using this
  have hK2 : K < 9007199254740992 := by
    have : K < 2 ^ (L + 1) * 2 ^ (52 - L) := by rw [hK]; exact Nat.mul_lt_mul_of_pos_right h2 (Nat.two_pow_pos _)
    rw [← Nat.pow_add, show L + 1 + (52 - L) = 53 by omega] at this
    simpa using this
  have hkept : Toward.even.cut s ((N * 2 ^ q) <<< (-(q : Int) - ((L : Int) - 52)).toNat) (((L : Int) - 52) - -(q : Int)).toNat = K := by
    by_cases hq : q ≤ 52 - L
    · rw [show (((L : Int) - 52) - -(q : Int)).toNat = 0 by omega, Nat.shiftLeft_eq, Nat.mul_assoc, ← Nat.pow_add, show q + (-(q : Int) - ((L : Int) - 52)).toNat = 52 - L by omega, ← hK]
      have := cut_exact s K 0 (by omega)
      simpa using this
    · rw [show (-(q : Int) - ((L : Int) - 52)).toNat = 0 by omega, show (((L : Int) - 52) - -(q : Int)).toNat = q - (52 - L) by omega, Nat.shiftLeft_zero]
      have e : N * 2 ^ q = K * 2 ^ (q - (52 - L)) := by
        rw [hK, Nat.mul_assoc, ← Nat.pow_add]; congr 2; omega
      rw [e]
      exact cut_exact s K _ (by omega)
  have hw : double.write (.number s (N * 2 ^ q) (-(q : Int))) = double.word s ((L + 1022) * 4503599627370496 + K) := by
    show double.nearest s (N * 2 ^ q) (-(q : Int)) = _
    unfold Format.nearest
    rw [if_neg hne]
    simp only [c1, c2, c3, c5, log2_mul N q h, ← hL]
    have hlast : max (-(q : Int) + ((L + q : Nat) : Int) - ((52 : Nat) : Int)) (-1074) = (L : Int) - 52 := by omega
    rw [hlast, hkept, show ((L : Int) - 52 - -1074).toNat = L + 1022 by omega, Nat.min_eq_left (by omega)]
  rw [hw]
  obtain ⟨f, hf⟩ : ∃ f, K = 4503599627370496 + f := ⟨K - 4503599627370496, by omega⟩
  have hr : (L + 1022) * 4503599627370496 + K = (L + 1023) * 4503599627370496 + f := by omega
  have hread : ∀ R : Nat, R = (L + 1023) * 4503599627370496 + f → double.read (double.word s R) = .number s K (-((52 - L : Nat) : Int)) := by
    intro R hR
    unfold Format.read Format.word
    simp only [c1, c2, c3, c4]
    have e1 : (if s = true then 9223372036854775808 + R else R) % 9223372036854775808 = R := by split <;> omega
    have e2 : ((if s = true then 9223372036854775808 + R else R) / 9223372036854775808 % 2 == 1) = s := by
      cases s
      · simp only [Bool.false_eq_true, if_false]
        rw [show R / 9223372036854775808 = 0 by omega]; rfl
      · simp only [if_true]
        rw [show (9223372036854775808 + R) / 9223372036854775808 = 1 by omega]; rfl
    rw [e1, e2, if_neg (by omega), if_pos (by omega)]
    have e3 : R % 4503599627370496 = f := by omega
    have e4 : R / 4503599627370496 = L + 1023 := by omega
    rw [e3, e4, ← hf]
    exact congrArg (Datum.number s K) (by omega)
  rw [hread _ hr, hK, hL]
theorem write_read0 (s : Bool) (p : Int) : double.read (double.write (.number s 0 p)) = .number s 0 (-((1074 : Nat) : Int)) := by
  show double.read (double.nearest s 0 p) = _
  unfold Format.nearest
  rw [if_pos rfl]
  cases s <;> rfl
theorem val_zero (s : Bool) (q : Nat) : Val (.number s 0 (-(q : Int))) 0 := ⟨s, 0, q, rfl, by rw [Int.natAbs_zero, Nat.zero_mul], fun h => by omega, fun h => by omega⟩
/-- these bits are this whole number -/
def Is (b : Nat) (n : Int) : Prop := Val (double.read b) n
theorem Val.write {d : Datum} {n : Int} (h : Val d n) (hn : n.natAbs < 9007199254740992) : Is (double.write d) n := by
  obtain ⟨s, m, q, rfl, hm, h1, h2⟩ := h
  subst hm
  by_cases h0 : n = 0
  · subst h0
    unfold Is
    rw [Int.natAbs_zero, Nat.zero_mul, write_read0]
    exact val_zero s 1074
  · unfold Is
    rw [write_read s n.natAbs q (by omega) hn]
    exact ⟨s, _, 52 - n.natAbs.log2, rfl, rfl, h1, h2⟩
theorem Is.add {x y : Nat} {a b : Int} (h : Is x a) (k : Is y b) (hn : (a + b).natAbs < 9007199254740992) : ∃ r, floatBits .add .f64 x y = some r ∧ Is r (a + b) := by
  obtain ⟨f, e, hf⟩ := Val.sum h k
  exact ⟨double.write f, by show ((double.read x).sum (double.read y)).map double.write = _; rw [e]; rfl, hf.write hn⟩
theorem Is.sub {x y : Nat} {a b : Int} (h : Is x a) (k : Is y b) (hn : (a - b).natAbs < 9007199254740992) : ∃ r, floatBits .sub .f64 x y = some r ∧ Is r (a - b) := by
  obtain ⟨f, e, hf⟩ := Val.sum h (Val.opposite k)
  exact ⟨double.write f, by show ((double.read x).sum (double.read y).opposite).map double.write = _; rw [e]; rfl, Val.write (by rw [Int.sub_eq_add_neg]; exact hf) hn⟩
end Go.Proofs.YtcbncdigejjcpaaGreatDoor.Num.Pt

namespace Go.Proofs.YtcbncdigejjcpaaGreatDoor.Num.Pt
open Ieee

theorem read_neg (b : Nat) : double.read (b ^^^ 9223372036854775808) = (double.read b).opposite := by
  obtain ⟨c1, c2, c3, c4, c5⟩ := double_nums
  have e1 : (b ^^^ 9223372036854775808) % 9223372036854775808 = b % 9223372036854775808 := by
    have := Nat.xor_mod_two_pow (a := b) (b := 2 ^ 63) (n := 63)
    rw [Nat.mod_self, Nat.xor_zero] at this
    exact this
  have e2 : ((b ^^^ 9223372036854775808) / 9223372036854775808 % 2 == 1) = !(b / 9223372036854775808 % 2 == 1) := by
    have h1 : ∀ x : Nat, (x / 9223372036854775808 % 2 == 1) = x.testBit 63 := fun x => by
      rw [Nat.testBit_eq_decide_div_mod_eq]
      rfl
    rw [h1, h1, Nat.testBit_xor, show Nat.testBit 9223372036854775808 63 = true from Nat.testBit_two_pow_self (n := 63)]
    simp
  unfold Format.read
  simp only [c1, c2, c3, c4, e1, e2]
  repeat' split
  all_goals rfl
theorem Is.neg {b : Nat} {n : Int} (h : Is b n) : Is (Go.Op.negFloat .f64 b) (-n) := by
  show Val (double.read (b ^^^ 9223372036854775808)) (-n)
  rw [read_neg]
  exact Val.opposite h

end Go.Proofs.YtcbncdigejjcpaaGreatDoor.Num.Pt

namespace Go.Proofs.YtcbncdigejjcpaaGreatDoor.Num.Pt
open Go.RowKit

/-- a text's value -/
abbrev txt (t : List UInt8) : Value := .string ⟨t.toArray⟩
/-- a point that a call told, laid in a block -/
theorem pt_new (w : World) (x y : Int) : (w.alloc (pc x y)).heap[w.heap.size]? = some (.cells #[.int .i64 x, .int .i64 y] 47 (0, 0)) := heap_alloc_new w _
end Go.Proofs.YtcbncdigejjcpaaGreatDoor.Num.Pt

namespace Go.Proofs.YtcbncdigejjcpaaGreatDoor.Num.Pt
open Go.RowKit

theorem part_any (n : Int) (w : World) : Calls Tryz.prog 216 #[.int .i64 n] w fun e w' => e = .returned (.bool (decide (-1048576 ≤ n ∧ n ≤ 1048576))) ∧ w' = w := by
  by_cases h1 : -1048576 ≤ n
  · by_cases h2 : n ≤ 1048576
    · rw [decide_eq_true ⟨h1, h2⟩]
      go_enter Tryz.func216, Tryz.ntmps216
      go_wp2_with fail
      go_ret
      exact ⟨rfl, rfl⟩
    · rw [decide_eq_false (fun h => h2 h.2)]
      go_enter Tryz.func216, Tryz.ntmps216
      go_wp2_with fail
      go_ret
      exact ⟨rfl, rfl⟩
  · rw [decide_eq_false (fun h => h1 h.1)]
    go_enter Tryz.func216, Tryz.ntmps216
    go_wp2_with fail
    go_ret
    exact ⟨rfl, rfl⟩
theorem pright_any (x y : Int) (w : World) : Calls Tryz.prog 176 #[pv x y] w fun e w' => e = .returned (.bool (rt x y)) ∧ Hid (Below w.heap.size w w') := by
  have e : rt x y = (decide (-1048576 ≤ x ∧ x ≤ 1048576) && decide (-1048576 ≤ y ∧ y ≤ 1048576)) := by
    rw [← Bool.decide_and]; unfold rt; exact decide_eq_decide.2 (by omega)
  rw [e]
  have H1 := hid (part_any x)
  have H2 := hid (part_any y)
  generalize decide (-1048576 ≤ x ∧ x ≤ 1048576) = X at *
  generalize decide (-1048576 ≤ y ∧ y ≤ 1048576) = Y at *
  have HX := hid (pt_new w x y)
  have HB := hid (below_alloc w (pc x y))
  obtain ⟨⟨c0, c1⟩, -⟩ := pt_facts HX.out
  cases X with
  | false =>
    go_enter Tryz.func176, Tryz.ntmps176
    go_wp2_with fail
    refine (H1.out _).mono ?_; rintro e w' ⟨rfl, rfl⟩
    go_wp2_with fail
    go_ret
    exact ⟨rfl, HB.out⟩
  | true =>
    go_enter Tryz.func176, Tryz.ntmps176
    go_wp2_with fail
    refine (H1.out _).mono ?_; rintro e w' ⟨rfl, rfl⟩
    go_wp2_with fail
    refine (H2.out _).mono ?_; rintro e w' ⟨rfl, rfl⟩
    go_wp2_with fail
    go_ret
    exact ⟨rfl, HB.out⟩
end Go.Proofs.YtcbncdigejjcpaaGreatDoor.Num.Pt

namespace Go.Proofs.YtcbncdigejjcpaaGreatDoor.Num.Pt
open Go.RowKit

/-- what Print reads of the package-level variables -/
structure Env (w : World) : Prop where
  room : 8 < w.heap.size
  pow : Lib.TabIs Tryz.prog w "internal/strconv.uint64pow10" .u64 Lib.pow10Tab
theorem gPow : Tryz.prog.globalNamed "internal/strconv.uint64pow10" = some 6 := by kernel_rfl
theorem Env.below {w w' : World} (h : Env w) (hb : Below w.heap.size w w') : Env w' := by
  refine ⟨Nat.lt_of_lt_of_le h.room hb.size, ?_⟩
  have := h.pow
  unfold Lib.TabIs World.var? at this ⊢
  rw [gPow] at this ⊢
  simp only [Option.bind_some] at this ⊢
  rw [hb.block 6 (Nat.lt_trans (by decide) h.room)]; exact this
theorem app_ba (a b : List UInt8) : (⟨a.toArray⟩ ++ ⟨b.toArray⟩ : ByteArray) = ⟨(a ++ b).toArray⟩ := by
  apply ByteArray.ext
  simp [ByteArray.data_append]
theorem itoa_len (v : Int) (h0 : -9223372036854775808 ≤ v) (h1 : v ≤ 9223372036854775807) : (Lib.itoa v).length ≤ 21 := Lib.itoa_length_le v h0 h1
theorem ret_str {a b : List UInt8} (h : a = b) : Ending.returned (.string ⟨a.toArray⟩) = .returned (.string ⟨b.toArray⟩) := by rw [h]

end Go.Proofs.YtcbncdigejjcpaaGreatDoor.Num.Pt

namespace Go.Proofs.YtcbncdigejjcpaaGreatDoor.Num
open Go.RowKit

theorem hid {p : Prop} (h : p) : Hid p := h
theorem below_alloc (w : World) (o : Obj) : Below w.heap.size w (w.alloc o) := (Below.refl _ _).alloc (Nat.le_refl _) o
/-- the sum of two numbers and its error -/
def addV (a b : Int) : Int := if -9223372036854775808 ≤ a + b ∧ a + b ≤ 9223372036854775807 then a + b else 0
def addE (a b : Int) : Int := if -9223372036854775808 ≤ a + b ∧ a + b ≤ 9223372036854775807 then 0 else 51
set_option maxHeartbeats 1000000 in
set_option maxRecDepth 100000 in
/-- Add -/
theorem add_any (a b : Int) (w : World) (a0 : -9223372036854775808 ≤ a) (a1 : a ≤ 9223372036854775807) (b0 : -9223372036854775808 ≤ b) (b1 : b ≤ 9223372036854775807) :
    Calls Tryz.prog 154 #[.int .i64 a, .int .i64 b] w fun e w' => e = .returned (.tuple #[.int .i64 (addV a b), .int .i64 (addE a b)]) ∧ w' = w := by
  by_cases h1 : 9223372036854775807 < a + b
  · have e1 : addV a b = 0 := if_neg (by omega)
    have e2 : addE a b = 51 := if_neg (by omega)
    rw [e1, e2]
    have hw : IntKind.i64.wrap (a + b) = a + b - 18446744073709551616 := by rw [IntKind.wrap_i64]; omega
    obtain ⟨S, hS⟩ : ∃ S, S = a + b - 18446744073709551616 := ⟨_, rfl⟩
    rw [← hS] at hw
    have c1 : 0 < b := by omega
    have c2 : S < a := by omega
    clear hS h1 e1 e2
    go_enter Tryz.func154, Tryz.ntmps154
    go_wp2
    go_ret2
    exact ⟨rfl, rfl⟩
  · by_cases h2 : a + b < -9223372036854775808
    · have e1 : addV a b = 0 := if_neg (by omega)
      have e2 : addE a b = 51 := if_neg (by omega)
      rw [e1, e2]
      have hw : IntKind.i64.wrap (a + b) = a + b + 18446744073709551616 := by rw [IntKind.wrap_i64]; omega
      obtain ⟨S, hS⟩ : ∃ S, S = a + b + 18446744073709551616 := ⟨_, rfl⟩
      rw [← hS] at hw
      have c1 : b < 0 := by omega
      have c2 : a < S := by omega
      have c3 : ¬ 0 < b := by omega
      clear hS h1 h2 e1 e2
      go_enter Tryz.func154, Tryz.ntmps154
      go_wp2
      go_ret2
      exact ⟨rfl, rfl⟩
    · have e1 : addV a b = a + b := if_pos (by omega)
      have e2 : addE a b = 0 := if_pos (by omega)
      rw [e1, e2]
      have s0 : -9223372036854775808 ≤ a + b := by omega
      have s1 : a + b ≤ 9223372036854775807 := by omega
      rcases (show (0 < b ∧ ¬ a + b < a ∧ ¬ b < 0) ∨ (¬ 0 < b ∧ b < 0 ∧ ¬ a < a + b) ∨ (¬ 0 < b ∧ ¬ b < 0) by omega) with ⟨c1, c2, c3⟩ | ⟨c1, c2, c3⟩ | ⟨c1, c2⟩
      all_goals clear h1 h2 e1 e2
      all_goals go_enter Tryz.func154, Tryz.ntmps154
      all_goals go_wp2
      all_goals go_ret2
      all_goals exact ⟨rfl, rfl⟩
end Go.Proofs.YtcbncdigejjcpaaGreatDoor.Num

namespace Go.Proofs.YtcbncdigejjcpaaGreatDoor.Num
open Go.RowKit

theorem iter_below (w : World) (s : ByteArray) (i : Nat) : Below w.heap.size w (w.iter s i) := below_alloc w _
theorem below_iterAt {n : Nat} {w W : World} (h : Below n w W) (k : Nat) (hk : n ≤ k) (s : ByteArray) (i : Nat) : Below n w (W.iterAt k s i) :=
  ⟨h.os, h.tape, h.output, by simpa [World.iterAt] using h.size, fun j hj => by
    simp only [World.iterAt]
    rw [Array.getElem?_setIfInBounds_ne (by omega)]
    exact h.block j hj⟩
set_option maxHeartbeats 1000000 in
set_option maxRecDepth 100000 in
/-- isDigit -/
theorem isDigit_any (r : Int) (w : World) (h0 : 0 ≤ r) (h1 : r ≤ 2147483647) :
    Calls Tryz.prog 211 #[.int .i32 r] w fun e w' => e = .returned (.bool (decide (48 ≤ r ∧ r ≤ 57))) ∧ w' = w := by
  rcases (show (48 ≤ r ∧ r ≤ 57) ∨ (48 ≤ r ∧ ¬ r ≤ 57) ∨ ¬ 48 ≤ r by omega) with ⟨c1, c2⟩ | ⟨c1, c2⟩ | c1
  · rw [decide_eq_true ⟨c1, c2⟩]
    go_enter Tryz.func211, Tryz.ntmps211
    go_wp2
    go_ret
    exact ⟨rfl, rfl⟩
  · rw [decide_eq_false (by omega)]
    go_enter Tryz.func211, Tryz.ntmps211
    go_wp2
    go_ret
    exact ⟨rfl, rfl⟩
  · rw [decide_eq_false (by omega)]
    go_enter Tryz.func211, Tryz.ntmps211
    go_wp2
    go_ret
    exact ⟨rfl, rfl⟩
/-- digits that are a number behind their sign -/
def numOk (d : List UInt8) (b : Bool) : Bool := !d.isEmpty && (!(d.head? == some 48) || !b && d == [48]) && d.all isD
theorem numOk_formed (l : List UInt8) : numOk (digs l) (neg l) = formed l := by
  unfold numOk formed
  cases hn : neg l
  · rw [digs_plain hn]; simp
  · obtain ⟨r, rfl⟩ := neg_not hn
    rw [digs_minus]
    simp
/-- the first ones are digits -/
def DigTo (d : List UInt8) (i : Nat) : Prop := ∀ j (h : j < d.length), j < i → isD d[j] = true
theorem DigTo.all {d : List UInt8} (h : DigTo d d.length) : d.all isD = true := by
  rw [List.all_eq_true]
  intro x hx
  obtain ⟨j, hj, e⟩ := List.getElem_of_mem hx
  rw [← e]
  exact h j hj hj
theorem not_all {d : List UInt8} {i : Nat} (h : i < d.length) (hx : isD d[i] = false) : d.all isD = false := by
  cases e : d.all isD
  · rfl
  · rw [List.all_eq_true.1 e _ (List.getElem_mem h)] at hx
    exact hx
set_option maxHeartbeats 2000000 in
set_option maxRecDepth 100000 in
/-- isNumber -/
theorem isNumber_any (d : List UInt8) (b : Bool) (w : World) :
    Calls Tryz.prog 165 #[.string ⟨d.toArray⟩, .bool b] w fun e w' => e = .returned (.bool (numOk d b)) ∧ Hid (Below w.heap.size w w') := by
  cases d with
  | nil =>
    rw [show numOk [] b = false from rfl]
    go_enter Tryz.func165, Tryz.ntmps165
    go_wp2
    go_ret
    exact ⟨rfl, Below.refl _ _⟩
  | cons c r =>
    have e0 : (((((⟨(c :: r).toArray⟩ : ByteArray)[0]'(by simp [ByteArray.size])).toNat : Nat) : Int) == 48) = (c == 48) := by
      have e : ((⟨(c :: r).toArray⟩ : ByteArray)[0]'(by simp [ByteArray.size])) = c := rfl
      rw [e]
      by_cases hc : c = 48
      · subst hc; decide
      · rw [beq_eq_false_iff_ne.2 hc]
        exact beq_eq_false_iff_ne.2 fun h => hc (UInt8.toNat_inj.1 (by
          have : c.toNat = 48 := by omega
          rw [this]; rfl))
    by_cases hc : c = 48
    · subst hc
      cases b with
      | true =>
        rw [show numOk (48 :: r) true = false by simp [numOk]]
        go_enter Tryz.func165, Tryz.ntmps165
        go_wp2
        go_ret
        exact ⟨rfl, Below.refl _ _⟩
      | false =>
        cases r with
        | nil =>
          rw [show numOk [48] false = true by decide]
          have n0 := fun ty => run_next_ascii (P := Tryz.prog) w ⟨#[48]⟩ 0 ty (by decide) (by decide)
          have n1 := fun ty => run_next_end (P := Tryz.prog) w ⟨#[48]⟩ 1 ty (by decide)
          have HD := hid (fun w => isDigit_any 48 w (by decide) (by decide))
          go_enter Tryz.func165, Tryz.ntmps165
          go_wp2_with fail
          refine wp_loop_rounds 2 ?_
          rw [rounds_succ]
          go_wp2_with fail
          refine (HD.out _).mono ?_; rintro e w' ⟨rfl, rfl⟩
          go_wp2_with fail
          rw [rounds_succ]
          go_wp2_with fail
          go_ret
          exact ⟨rfl, iter_below w _ _⟩
        | cons x r =>
          rw [show numOk (48 :: x :: r) false = false by simp [numOk]]
          go_enter Tryz.func165, Tryz.ntmps165
          go_wp2
          go_ret
          exact ⟨rfl, Below.refl _ _⟩
    · rw [beq_eq_false_iff_ne.2 hc] at e0
      have hok : numOk (c :: r) b = (c :: r).all isD := by simp [numOk, hc]
      obtain ⟨V, hV⟩ : ∃ V, V = numOk (c :: r) b := ⟨_, rfl⟩
      rw [← hV]
      rw [hok] at hV
      have HV := hid hV
      clear hV hok
      go_enter Tryz.func165, Tryz.ntmps165
      go_wp2_with fail
      clear e0 hc
      generalize ((⟨(c :: r).toArray⟩ : ByteArray)[0]'(by simp [ByteArray.size])) = z0
      generalize c :: r = d at HV ⊢
      obtain ⟨S, hS⟩ : ∃ S : ByteArray, S = ⟨d.toArray⟩ := ⟨_, rfl⟩
      have hsz : S.size = d.length := by rw [hS]; simp [ByteArray.size]
      rw [← hS]
      have HZ := hid hsz
      have HT : Hid (∀ (i : Nat) (h : i < S.size) (h' : i < d.length), S[i]'h = d[i]'h') := fun i h h' => by subst hS; rfl
      clear hS hsz
      go_loopg [6] S.size (fun g _ wx => ∃ i : Nat, i + g = S.size ∧ wx.heap[w.heap.size]? = some (.stringIter S i) ∧ Hid (Below w.heap.size w wx) ∧ Hid (DigTo d i))
      case atStart => exact ⟨0, by omega, World.iter_heap _ _ _, iter_below _ _ _, fun j _ h => absurd h (by omega)⟩
      case round =>
        obtain ⟨i, hig, hit, HB, HN⟩ := hrel
        have hblt : w.heap.size < wr.heap.size := (Array.getElem?_eq_some_iff.1 hit).1
        have Hg := hid hig
        cases gk with
        | zero =>
          have hnx := fun ty => Lib.run_next_end_at (P := Tryz.prog) wr w.heap.size S i ty hit (by omega)
          clear hit hig
          obtain rfl : V = true := by
            rw [HV.out]
            refine DigTo.all ?_
            have := HN.out
            rwa [show i = d.length by have := Hg.out; have := HZ.out; omega] at this
          go_wp2_with fail
          go_ret
          exact ⟨rfl, HB.out⟩
        | succ g =>
          have hi : i < S.size := by omega
          have hit2 : i < d.length := by have := HZ.out; omega
          have hx := HT.out i hi hit2
          have hnot := fun h => not_all hit2 h
          have hyes : isD d[i] = true → Hid (DigTo d (i + 1)) := fun h j hj hji => by
            by_cases e : j = i
            · subst e; exact h
            · exact HN.out j hj (by omega)
          by_cases h128 : (S[i]'hi).toNat < 128
          · have hnx := fun ty => Lib.run_next_ascii_at (P := Tryz.prog) wr w.heap.size S i ty hit hi h128
            have HI2 := hid (Lib.iterAt_heap wr w.heap.size S i (i + 1) hit)
            have HB2 := hid (below_iterAt HB.out w.heap.size (Nat.le_refl _) S (i + 1))
            rw [hx] at hnx h128
            have HR := hid (fun (w : World) => isDigit_any ((d[i].toNat : Nat) : Int) w (by omega) (by omega))
            rw [show decide ((48 : Int) ≤ (d[i].toNat : Int) ∧ (d[i].toNat : Int) ≤ 57) = isD d[i] by unfold isD; exact decide_eq_decide.2 (by omega)] at HR
            generalize d[i] = x at *
            clear hit hig hx
            cases hD : isD x
            · obtain rfl : V = false := by rw [HV.out]; exact hnot hD
              rw [hD] at HR
              clear hyes hnot hD
              go_wp2_with fail
              refine (HR.out _).mono ?_; rintro e w2 ⟨rfl, rfl⟩
              go_wp2_with fail
              go_ret
              exact ⟨rfl, HB2.out⟩
            · have HC := hyes hD
              rw [hD] at HR
              clear hyes hnot hD
              go_wp2_with fail
              refine (HR.out _).mono ?_; rintro e w2 ⟨rfl, rfl⟩
              go_wp2_with fail
              go_roundg g
              case measure => omega
              case rel => exact ⟨i + 1, by have := Hg.out; omega, HI2.out, HB2.out, HC.out⟩
          · have hnx := fun ty => Lib.run_next_any_at (P := Tryz.prog) wr w.heap.size S i ty hit hi
            obtain ⟨hr0, hw1⟩ := decode_high S i hi (by omega)
            have hr1 := decode_le S i
            rw [hx] at h128
            obtain rfl : V = false := by
              rw [HV.out]
              refine hnot ?_
              unfold isD
              exact decide_eq_false (by omega)
            generalize (Utf8.decode S i).1 = R at *
            generalize (Utf8.decode S i).2 = D at *
            have HB2 := hid (below_iterAt HB.out w.heap.size (Nat.le_refl _) S (i + D))
            have HR := hid (fun (w : World) => isDigit_any (R : Int) w (by omega) (by omega))
            rw [decide_eq_false (show ¬ ((48 : Int) ≤ (R : Int) ∧ (R : Int) ≤ 57) by omega)] at HR
            clear hit hig hx h128 hnot hyes
            go_wp2_with fail
            refine (HR.out _).mono ?_; rintro e w2 ⟨rfl, rfl⟩
            go_wp2_with fail
            go_ret
            exact ⟨rfl, HB2.out⟩

end Go.Proofs.YtcbncdigejjcpaaGreatDoor.Num

namespace Go.Proofs.YtcbncdigejjcpaaGreatDoor.Num
open Go.RowKit

/-- what negated tells -/
def ngV (d : List UInt8) : Int := if val d ≤ 9223372036854775808 then -(val d : Int) else 0
def ngB (d : List UInt8) : Bool := decide (val d ≤ 9223372036854775808)
theorem quo_at (D : Int) (h0 : 0 ≤ D) (h1 : D ≤ 9) : ∃ Q : Int, (-9223372036854775808 + D).tdiv 10 = Q ∧ (D ≤ 8 ∧ Q = -922337203685477580 ∨ D = 9 ∧ Q = -922337203685477579) := by
  refine ⟨_, rfl, ?_⟩
  obtain rfl | rfl | rfl | rfl | rfl | rfl | rfl | rfl | rfl | rfl : D = 0 ∨ D = 1 ∨ D = 2 ∨ D = 3 ∨ D = 4 ∨ D = 5 ∨ D = 6 ∨ D = 7 ∨ D = 8 ∨ D = 9 := by omega
  all_goals decide
set_option maxHeartbeats 2000000 in
set_option maxRecDepth 100000 in
/-- negated -/
theorem negated_any (d : List UInt8) (hd : Dig d) (w : World) :
    Calls Tryz.prog 166 #[.string ⟨d.toArray⟩] w fun e w' => e = .returned (.tuple #[.int .i64 (ngV d), .bool (ngB d)]) ∧ Hid (Below w.heap.size w w') := by
  obtain ⟨V, hV⟩ : ∃ V, V = ngV d := ⟨_, rfl⟩
  obtain ⟨B, hB⟩ : ∃ B, B = ngB d := ⟨_, rfl⟩
  rw [← hV, ← hB]
  have HV := hid hV
  have HBB := hid hB
  have HD := hid hd
  clear hV hB hd
  obtain ⟨S, hS⟩ : ∃ S : ByteArray, S = ⟨d.toArray⟩ := ⟨_, rfl⟩
  have hsz : S.size = d.length := by rw [hS]; simp [ByteArray.size]
  rw [← hS]
  have HZ := hid hsz
  have HT : Hid (∀ (i : Nat) (h : i < S.size) (h' : i < d.length), S[i]'h = d[i]'h') := fun i h h' => by subst hS; rfl
  clear hS hsz
  go_enter Tryz.func166, Tryz.ntmps166
  go_wp2_with fail
  go_loopg [4, 6, 7] S.size (fun g v4 _ _ wx => ∃ (i : Nat) (n : Int), v4 = .int .i64 n ∧ i + g = S.size ∧ n ≤ 0 ∧ -9223372036854775808 ≤ n ∧ Hid (n = -(val (d.take i) : Int)) ∧ wx.heap[w.heap.size]? = some (.stringIter S i) ∧ Hid (Below w.heap.size w wx))
  case atStart => exact ⟨0, 0, rfl, by omega, by decide, by decide, by simp [Hid, val_nil], World.iter_heap _ _ _, iter_below _ _ _⟩
  case round =>
    obtain ⟨i, n, rfl, hig, hn1, hn0, HN, hit, HB⟩ := hrel
    have hblt : w.heap.size < wr.heap.size := (Array.getElem?_eq_some_iff.1 hit).1
    have Hg := hid hig
    cases gk with
    | zero =>
      have hnx := fun ty => Lib.run_next_end_at (P := Tryz.prog) wr w.heap.size S i ty hit (by omega)
      clear hit hig
      have hi : i = d.length := by have := Hg.out; have := HZ.out; omega
      have hnv : n = -(val d : Int) := by have := HN.out; rwa [hi, List.take_length] at this
      obtain rfl : V = n := by rw [HV.out, hnv]; exact if_pos (by omega)
      obtain rfl : B = true := by rw [HBB.out]; exact decide_eq_true (by omega)
      clear hnv hi
      go_wp2_with fail
      go_ret2
      exact ⟨rfl, HB.out⟩
    | succ g =>
      have hi : i < S.size := by omega
      have hit2 : i < d.length := by have := HZ.out; omega
      have hx := HT.out i hi hit2
      have hdx := HD.out d[i] (List.getElem_mem hit2)
      have hvs := val_take_succ d i hit2
      have hvt := val_take d (i + 1)
      have hnx := fun ty => Lib.run_next_ascii_at (P := Tryz.prog) wr w.heap.size S i ty hit hi (by rw [hx]; omega)
      have HI2 := hid (Lib.iterAt_heap wr w.heap.size S i (i + 1) hit)
      have HB2 := hid (below_iterAt HB.out w.heap.size (Nat.le_refl _) S (i + 1))
      rw [hx] at hnx
      obtain ⟨X, hX⟩ : ∃ X : Int, X = (d[i].toNat : Int) := ⟨_, rfl⟩
      rw [← hX] at hnx
      have hx0 : 48 ≤ X := by omega
      have hx1 : X ≤ 57 := by omega
      obtain ⟨Q, hq, hQ⟩ := quo_at (X - 48) (by omega) (by omega)
      have HNn := HN.out
      have HQ := hid hQ
      have hstep : Hid (n * 10 - (X - 48) = -(val (d.take (i + 1)) : Int)) := by unfold Hid; omega
      have hq0 : Q ≤ 0 := by omega
      have hq1 : -922337203685477580 ≤ Q := by omega
      by_cases hc : n < Q
      · have hbig : 9223372036854775808 < val d := by omega
        obtain rfl : V = 0 := by rw [HV.out]; exact if_neg (by omega)
        obtain rfl : B = false := by rw [HBB.out]; exact decide_eq_false (by omega)
        clear hit hig hx hdx hvs hvt hX hQ HNn hbig
        go_wp2_with fail
        go_ret2
        exact ⟨rfl, HB2.out⟩
      · have hge : -9223372036854775808 ≤ n * 10 - (X - 48) := by omega
        have hge2 : -9223372036854775808 ≤ n * 10 := by omega
        clear hit hig hx hdx hvs hvt hX hQ HNn
        go_wp2_with fail
        go_roundg g
        case measure => omega
        case rel => exact ⟨i + 1, _, rfl, by have := Hg.out; omega, by omega, by omega, hstep, HI2.out, HB2.out⟩

end Go.Proofs.YtcbncdigejjcpaaGreatDoor.Num

namespace Go.Proofs.YtcbncdigejjcpaaGreatDoor.Num
open Go.RowKit

/-- what the calls read of the package-level variables -/
structure Env (w : World) : Prop where
  room : 9 ≤ w.heap.size
  pow : Lib.TabIs Tryz.prog w "internal/strconv.uint64pow10" .u64 Lib.pow10Tab
theorem gPow : Tryz.prog.globalNamed "internal/strconv.uint64pow10" = some 6 := by kernel_rfl
theorem Env.keep {w w' : World} (h : Env w) (hs : w.heap.size ≤ w'.heap.size) (hb : ∀ k, k < 9 → w'.heap[k]? = w.heap[k]?) : Env w' := by
  refine ⟨Nat.le_trans h.room hs, ?_⟩
  have := h.pow
  unfold Lib.TabIs World.var? at this ⊢
  rw [gPow] at this ⊢
  simp only [Option.bind_some] at this ⊢
  rw [hb 6 (by decide)]; exact this
theorem Env.below {w w' : World} {n : Nat} (h : Env w) (hb : Below n w w') (hn : 9 ≤ n) : Env w' := h.keep hb.size fun k hk => hb.block k (by omega)
end Go.Proofs.YtcbncdigejjcpaaGreatDoor.Num

namespace Go.Proofs.YtcbncdigejjcpaaGreatDoor.Num
open Go.RowKit

theorem has_minus (l : List UInt8) : Lib.hasPrefix l [45] = neg l := by
  unfold Lib.hasPrefix neg
  cases l with
  | nil => rfl
  | cons b l =>
    by_cases h : b = 45
    · subst h; rfl
    · have h1 : ((45 : UInt8) == b) = false := beq_eq_false_iff_ne.2 fun e => h e.symm
      have h2 : ((some b : Option UInt8) == some 45) = false := beq_eq_false_iff_ne.2 fun e => h (Option.some.inj e)
      rw [List.head?_cons, h2]
      simp only [List.isPrefixOf, h1, Bool.false_and]
theorem trim_minus (l : List UInt8) : Lib.trimPrefix l [45] = digs l := by
  unfold Lib.trimPrefix digs
  rw [has_minus]
  cases neg l
  · rfl
  · simp
theorem cut_any (l : List UInt8) (w : World) :
    Calls Tryz.prog 164 #[.string ⟨l.toArray⟩, .string ⟨#[45]⟩] w fun e w' => e = .returned (.tuple #[.string ⟨(digs l).toArray⟩, .bool (neg l)]) ∧ w' = w := by
  refine (Tryz.strings_CutPrefix ⟨l.toArray⟩ ⟨#[45]⟩ w).mono ?_
  rintro e w' ⟨rfl, rfl⟩
  refine ⟨?_, rfl⟩
  show Ending.returned (.tuple #[.string ⟨(Lib.trimPrefix l [45]).toArray⟩, .bool (Lib.hasPrefix l [45])]) = _
  rw [has_minus, trim_minus]
theorem tell_bad {l : List UInt8} (h : formed l = false) : tellV l = 0 ∧ tellE l = 50 := by simp [tellV, tellE, h]
theorem tell_over {l : List UInt8} (h : formed l = true) (hf : fits l = false) : tellV l = 0 ∧ tellE l = 51 := by simp [tellV, tellE, h, hf]
theorem tell_ok {l : List UInt8} (h : formed l = true) (hf : fits l = true) : tellV l = num l ∧ tellE l = 0 := by simp [tellV, tellE, h, hf]
set_option maxHeartbeats 2000000 in
set_option maxRecDepth 100000 in
/-- Parse -/
theorem parse_any (l : List UInt8) (w : World) :
    Calls Tryz.prog 93 #[.string ⟨l.toArray⟩] w fun e w' => e = .returned (.tuple #[.int .i64 (tellV l), .int .i64 (tellE l)]) ∧ Hid (Below w.heap.size w w') := by
  have HC := hid (cut_any l w)
  have HN := hid (isNumber_any (digs l) (neg l) w)
  rw [numOk_formed] at HN
  cases hF : formed l
  · rw [(tell_bad hF).1, (tell_bad hF).2]
    rw [hF] at HN
    generalize digs l = d at *
    clear hF
    go_enter Tryz.func93, Tryz.ntmps93
    go_wp2_with fail
    refine HC.out.mono ?_; rintro e w1 ⟨rfl, rfl⟩
    go_wp2_with fail
    refine HN.out.mono ?_; rintro e w2 ⟨rfl, hb2⟩
    go_wp2_with fail
    go_ret2
    exact ⟨rfl, hb2.out⟩
  · rw [hF] at HN
    have HG := hid (fun w => negated_any (digs l) (formed_parts hF).1 w)
    have hng : ngV (digs l) = if val (digs l) ≤ 9223372036854775808 then -(val (digs l) : Int) else 0 := rfl
    have hnb : ngB (digs l) = decide (val (digs l) ≤ 9223372036854775808) := rfl
    have hft : fits l = if neg l then decide (val (digs l) ≤ 9223372036854775808) else decide (val (digs l) ≤ 9223372036854775807) := rfl
    have hnm : num l = if neg l then -(val (digs l) : Int) else val (digs l) := rfl
    obtain ⟨tv, htv⟩ : ∃ t, t = tellV l := ⟨_, rfl⟩
    obtain ⟨te, hte⟩ : ∃ t, t = tellE l := ⟨_, rfl⟩
    have HO := hid (fun h => tell_over hF h)
    have HK := hid (fun h => tell_ok hF h)
    rw [← htv, ← hte] at HO HK ⊢
    clear hF htv hte
    generalize ngV (digs l) = G at *
    generalize ngB (digs l) = B at *
    generalize val (digs l) = v at *
    generalize digs l = d at *
    generalize fits l = FT at *
    generalize num l = NM at *
    cases hneg : neg l
    · rw [hneg] at hft hnm HC HN
      simp only [Bool.false_eq_true, if_false] at hft hnm
      by_cases h1 : v ≤ 9223372036854775807
      · rw [if_pos (by omega)] at hng
        rw [decide_eq_true (by omega)] at hnb
        rw [decide_eq_true h1] at hft
        obtain ⟨rfl, rfl⟩ := HK.out hft
        subst hnb
        have hG : -G = tv := by omega
        have hg0 : -9223372036854775807 ≤ G := by omega
        have hg1 : G ≤ 0 := by omega
        have hge : (G == -9223372036854775808) = false := beq_eq_false_iff_ne.2 (by omega)
        clear hng hft hnm HO HK h1
        go_enter Tryz.func93, Tryz.ntmps93
        go_wp2_with fail
        refine HC.out.mono ?_; rintro e w1 ⟨rfl, rfl⟩
        go_wp2_with fail
        refine HN.out.mono ?_; rintro e w2 ⟨rfl, hb2⟩
        go_wp2_with fail
        refine (HG.out _).mono ?_; rintro e w3 ⟨rfl, hb3⟩
        have HB := hid (hb2.out.trans (hb3.out.mono hb2.out.size))
        clear hb2 hb3
        go_wp2_with fail
        go_ret2
        exact ⟨rfl, HB.out⟩
      · rw [decide_eq_false h1] at hft
        obtain ⟨rfl, rfl⟩ := HO.out hft
        by_cases h2 : v ≤ 9223372036854775808
        · rw [if_pos h2] at hng
          rw [decide_eq_true h2] at hnb
          obtain rfl : G = -9223372036854775808 := by omega
          subst hnb
          clear hng hft hnm HO HK h1 h2
          go_enter Tryz.func93, Tryz.ntmps93
          go_wp2_with fail
          refine HC.out.mono ?_; rintro e w1 ⟨rfl, rfl⟩
          go_wp2_with fail
          refine HN.out.mono ?_; rintro e w2 ⟨rfl, hb2⟩
          go_wp2_with fail
          refine (HG.out _).mono ?_; rintro e w3 ⟨rfl, hb3⟩
          have HB := hid (hb2.out.trans (hb3.out.mono hb2.out.size))
          clear hb2 hb3
          go_wp2_with fail
          go_ret2
          exact ⟨rfl, HB.out⟩
        · rw [if_neg h2] at hng
          rw [decide_eq_false h2] at hnb
          subst hnb hng
          clear hft hnm HO HK h1 h2
          go_enter Tryz.func93, Tryz.ntmps93
          go_wp2_with fail
          refine HC.out.mono ?_; rintro e w1 ⟨rfl, rfl⟩
          go_wp2_with fail
          refine HN.out.mono ?_; rintro e w2 ⟨rfl, hb2⟩
          go_wp2_with fail
          refine (HG.out _).mono ?_; rintro e w3 ⟨rfl, hb3⟩
          have HB := hid (hb2.out.trans (hb3.out.mono hb2.out.size))
          clear hb2 hb3
          go_wp2_with fail
          go_ret2
          exact ⟨rfl, HB.out⟩
    · rw [hneg] at hft hnm HC HN
      simp only [if_true] at hft hnm
      by_cases h1 : v ≤ 9223372036854775808
      · rw [if_pos h1] at hng
        rw [decide_eq_true h1] at hnb hft
        obtain ⟨rfl, rfl⟩ := HK.out hft
        obtain rfl : G = tv := by omega
        subst hnb
        have hg0 : -9223372036854775808 ≤ G := by omega
        have hg1 : G ≤ 0 := by omega
        clear hng hft hnm HO HK h1
        by_cases hm : G = -9223372036854775808
        · subst hm
          clear hg0 hg1
          go_enter Tryz.func93, Tryz.ntmps93
          go_wp2_with fail
          refine HC.out.mono ?_; rintro e w1 ⟨rfl, rfl⟩
          go_wp2_with fail
          refine HN.out.mono ?_; rintro e w2 ⟨rfl, hb2⟩
          go_wp2_with fail
          refine (HG.out _).mono ?_; rintro e w3 ⟨rfl, hb3⟩
          have HB := hid (hb2.out.trans (hb3.out.mono hb2.out.size))
          clear hb2 hb3
          go_wp2_with fail
          go_ret2
          exact ⟨rfl, HB.out⟩
        · have hge : (G == -9223372036854775808) = false := beq_eq_false_iff_ne.2 hm
          clear hm
          go_enter Tryz.func93, Tryz.ntmps93
          go_wp2_with fail
          refine HC.out.mono ?_; rintro e w1 ⟨rfl, rfl⟩
          go_wp2_with fail
          refine HN.out.mono ?_; rintro e w2 ⟨rfl, hb2⟩
          go_wp2_with fail
          refine (HG.out _).mono ?_; rintro e w3 ⟨rfl, hb3⟩
          have HB := hid (hb2.out.trans (hb3.out.mono hb2.out.size))
          clear hb2 hb3
          go_wp2_with fail
          go_ret2
          exact ⟨rfl, HB.out⟩
      · rw [if_neg h1] at hng
        rw [decide_eq_false h1] at hnb hft
        obtain ⟨rfl, rfl⟩ := HO.out hft
        subst hnb hng
        clear hft hnm HO HK h1
        go_enter Tryz.func93, Tryz.ntmps93
        go_wp2_with fail
        refine HC.out.mono ?_; rintro e w1 ⟨rfl, rfl⟩
        go_wp2_with fail
        refine HN.out.mono ?_; rintro e w2 ⟨rfl, hb2⟩
        go_wp2_with fail
        refine (HG.out _).mono ?_; rintro e w3 ⟨rfl, hb3⟩
        have HB := hid (hb2.out.trans (hb3.out.mono hb2.out.size))
        clear hb2 hb3
        go_wp2_with fail
        go_ret2
        exact ⟨rfl, HB.out⟩

end Go.Proofs.YtcbncdigejjcpaaGreatDoor.Num

namespace Go.Proofs.YtcbncdigejjcpaaGreatDoor.Dk
open Go.RowKit

theorem splice_two {Z X1 X2 : List Value} {n : Nat} (h1 : X1.length = n) (h : n + X2.length ≤ Z.length) : splice (splice Z 0 X1) n X2 = X1 ++ X2 ++ Z.drop (n + X2.length) := by
  subst h1
  unfold splice
  have e1 : Z.take 0 ++ (X1 ++ Z.drop (0 + X1.length)) = X1 ++ Z.drop X1.length := by simp
  rw [e1, List.take_left' rfl, List.drop_append, List.drop_eq_nil_of_le (by omega), List.nil_append, List.drop_drop, List.append_assoc]
  congr 3; omega
theorem info_str : (Tryz.prog.info? 9).map (·.size) = some 1 := by kernel_rfl
theorem ring_from (b k : Nat) (h : k < 256) (w : World) : (Instr.sliceAt 168 (.pointer (some ⟨b, 0, none⟩)) (some (.int .i64 k)) none none).run Tryz.prog w = .ok (.slice (some ⟨b, k, none⟩) (256 - k) (256 - k)) w := by
  have hkz : (k : Int) ≤ 256 := by omega
  have hne : ¬ 256 = k := by omega
  have ha : (⟨b, 0, none⟩ : Addr).add k = ⟨b, 0 + k, none⟩ := Go.WideShapes.add_plain b 0 k
  go_simp
theorem ring_all (b : Nat) (w : World) : (Instr.sliceAt 168 (.pointer (some ⟨b, 0, none⟩)) none none none).run Tryz.prog w = .ok (.slice (some ⟨b, 0, none⟩) 256 256) w := by
  go_simp
theorem list_from (g m c n : Nat) (h : n ≤ m) (w : World) : (Instr.slice 23 (.slice (some ⟨g, 0, none⟩) m c) (some (.int .i64 n)) none none).run Tryz.prog w = .ok (.slice (some (if c = n then ⟨g, 0, none⟩ else ⟨g, n, none⟩)) (m - n) (c - n)) w := by
  have hkz : (n : Int) ≤ (m : Int) := by omega
  have ha : (⟨g, 0, none⟩ : Addr).add n = ⟨g, 0 + n, none⟩ := Go.WideShapes.add_plain g 0 n
  by_cases hc : c = n
  · go_simp
  · go_simp
/-- a copy into a block that is known whole -/
theorem copy_into (w : World) (dp sp : Option Addr) (dLen dCap sLen sCap g off : Nat) (cur cs : List Value) (t : TypeId) (hg : w.heap[g]? = some (.cells cur.toArray t (0, 0))) (hn : cs.length = Nat.min sLen dLen)
    (hpos : 0 < cs.length → dp = some ⟨g, off, none⟩ ∧ ∃ ad, sp = some ad ∧ ∀ j v, cs[j]? = some v → w.cell? (ad.add j) = some v) (hfit : off + cs.length ≤ cur.length) (h1 : ∀ v ∈ cs, v.oneCell' = true) :
    ∃ w', (Builtin.copy_ #[23, 23] 3 #[.slice dp dLen dCap, .slice sp sLen sCap]).run Tryz.prog w = .ok (.int .i64 cs.length) w' ∧ w'.heap[g]? = some (.cells (splice cur off cs).toArray t (0, 0)) ∧ Below g w w' := by
  by_cases h0 : cs.length = 0
  · obtain rfl : cs = [] := List.eq_nil_of_length_eq_zero h0
    exact ⟨w, run_copy_none (P := Tryz.prog) w 23 23 3 9 dp sp dLen dCap sLen sCap Tryz.underlying23 info_str (by simpa using hn.symm), by simpa [splice] using hg, Below.refl _ _⟩
  · obtain ⟨rfl, ad, rfl, hsrc⟩ := hpos (by omega)
    exact ⟨_, run_copy_row (P := Tryz.prog) w 23 23 3 9 g off dLen dCap ad sLen sCap cur.toArray t cs Tryz.underlying23 info_str hg hn hsrc (by simpa using hfit) h1, by simpa [splice] using setRow_heap w g _ _ t _ hg, below_setRow (Below.refl _ _) (Nat.le_refl _) _⟩
set_option maxHeartbeats 2000000 in
set_option maxRecDepth 100000 in
/-- lay -/
theorem lay_any (b f fr m c g : Nat) (cs : Array Value) (L : Row) (Z : List Value) (t : TypeId) (w : World) (hc : w.heap[b]? = some (.cells cs 170 (0, 0))) (h1 : cs[256]? = some (.int .i64 f)) (hr : Ring cs f L) (hfr : fr + m ≤ L.length)
    (hg : w.heap[g]? = some (.cells Z.toArray t (0, 0))) (hbg : b < g) (hmZ : m ≤ Z.length) (hmc : m ≤ c) (hcm : c ≤ 256) :
    Calls Tryz.prog 168 #[ptr b, .slice (some ⟨g, 0, none⟩) m c, .int .i64 fr] w fun e w' => e = .returned (.tuple #[]) ∧ Hid (w'.heap[g]? = some (.cells (((L.drop fr).take m).map txt ++ Z.drop m).toArray t (0, 0)) ∧ Below g w w') := by
  have c1 : w.cell? ⟨b, 256, none⟩ = some (.int .i64 f) := by rw [dq_cells hc]; exact h1
  have hf := hr.beg
  have hl := hr.len
  obtain ⟨k, hk⟩ : ∃ k, k = (f + fr) % 256 := ⟨_, rfl⟩
  have HW := hid (fun w' c1 => where_any b f k fr w' c1 hf (by omega) (by omega) (by omega) (by omega))
  obtain ⟨n, hn⟩ : ∃ n, n = Nat.min (256 - k) m := ⟨_, rfl⟩
  have hnm : n ≤ m := by rw [hn]; exact Nat.min_le_right _ _
  have hnk : n ≤ 256 - k := by rw [hn]; exact Nat.min_le_left _ _
  have hn2 : n < m → n = 256 - k := by rw [hn]; show min (256 - k) m < m → min (256 - k) m = 256 - k; omega
  obtain ⟨X, hX⟩ : ∃ X, X = ((L.drop fr).take m).map txt := ⟨_, rfl⟩
  have hXg : ∀ j, j < m → X[j]? = cs[(f + (fr + j)) % 256]? := fun j hj => by
    rw [hX, hr.at_ (fr + j) (by omega), List.getElem?_map, List.getElem?_take, if_pos hj, List.getElem?_drop, List.getElem?_eq_getElem (by omega)]
    rfl
  have hone : ∀ v ∈ X, v.oneCell' = true := fun v hv => by
    rw [hX] at hv
    obtain ⟨s, _, rfl⟩ := List.mem_map.1 hv
    rfl
  have hXl : X.length = m := by rw [hX]; simp; omega
  rw [← hX]
  obtain ⟨X1, hX1⟩ : ∃ X1, X1 = X.take n := ⟨_, rfl⟩
  obtain ⟨X2, hX2⟩ : ∃ X2, X2 = X.drop n := ⟨_, rfl⟩
  have HX1 : Hid (∀ j v, X1[j]? = some v → w.cell? ⟨b, k + j, none⟩ = some v) := fun j v hv => by
    rw [hX1, List.getElem?_take] at hv
    split at hv
    · rw [dq_cells hc, ← hv, hXg j (by omega)]; congr 1; omega
    · cases hv
  have HX2 : Hid (∀ j v, X2[j]? = some v → w.cell? ⟨b, j, none⟩ = some v) := fun j v hv => by
    rw [hX2, List.getElem?_drop] at hv
    have hj : n + j < m := by rw [← hXl]; exact (List.getElem?_eq_some_iff.1 hv).1
    rw [dq_cells hc, ← hv, hXg (n + j) hj]; congr 1
    have := hn2 (by omega)
    omega
  have hL1 : X1.length = n := by rw [hX1]; simp; omega
  have hL2 : X2.length = m - n := by rw [hX2]; simp; omega
  have HO1 : Hid (∀ v ∈ X1, v.oneCell' = true) := fun v hv => hone v (by rw [hX1] at hv; exact List.mem_of_mem_take hv)
  have HO2 : Hid (∀ v ∈ X2, v.oneCell' = true) := fun v hv => hone v (by rw [hX2] at hv; exact List.mem_of_mem_drop hv)
  have HF : Hid (splice (splice Z 0 X1) n X2 = X ++ Z.drop m) := by
    unfold Hid
    rw [splice_two hL1 (by omega), hX1, hX2, List.take_append_drop, ← hX2, hL2]; congr 2; omega
  have HG := hid hg
  have HC := hid hc
  have hkz : (k : Int) < 256 := by omega
  have S1 := ring_from b k (by omega)
  have S2 := ring_all b
  have S3 : ∀ w0, (Instr.slice 23 (.slice (some ⟨g, 0, none⟩) m c) (some (.int .i64 X1.length)) none none).run Tryz.prog w0 = .ok (.slice (some (if c = n then ⟨g, 0, none⟩ else ⟨g, n, none⟩)) (m - n) (c - n)) w0 := fun w0 => by rw [hL1]; exact list_from g m c n hnm w0
  obtain ⟨p2, hp2⟩ : ∃ p2, p2 = some (if c = n then (⟨g, 0, none⟩ : Addr) else ⟨g, n, none⟩) := ⟨_, rfl⟩
  rw [← hp2] at S3
  have HP2 : Hid (0 < X2.length → p2 = some ⟨g, n, none⟩) := fun h => by rw [hp2, if_neg (by omega)]
  have HM1 : Hid (X1.length = Nat.min (256 - k) m) := by unfold Hid; rw [hL1]; exact hn
  have HM2 : Hid (X2.length = Nat.min 256 (m - n)) := by unfold Hid; rw [hL2]; show m - n = min 256 (m - n); omega
  have HF1 : Hid (0 + X1.length ≤ Z.length) := by unfold Hid; omega
  have HF2 : Hid (n + X2.length ≤ (splice Z 0 X1).length) := by unfold Hid; rw [length_splice _ _ _ (by omega)]; omega
  clear hp2
  have HN := hid hn2
  have HL1 := hid hL1
  have HL2 := hid hL2
  clear hX1 hX2 hX hXl hXg hone hk h1 hr hc hg hf hn2 hL1 hL2 hn
  go_enter Tryz.func168, Tryz.ntmps168
  go_wp2_with fail
  go_region_law (first
    | (refine step_copy_splice rfl _ _ 23 23 rfl 9 Tryz.underlying23 info_str _ _ _ _ _ _ rfl rfl g 0 Z t HG.out X1 HM1.out (fun _ => ⟨rfl, ⟨b, k, none⟩, rfl, fun j v h => by rw [Go.WideShapes.add_plain]; exact HX1.out j v h⟩) HF1.out HO1.out g w (Below.refl g w).drew (Nat.le_refl _) ?_; intro w2 HG2 hb2)
    | (go_simp; go_at_call 162; refine (HW.out _ (by simpa using c1)).mono ?_; rintro e w1 ⟨rfl, rfl⟩))
  all_goals
    have HB2 := hid hb2
    obtain ⟨w3, hrun, hg3, hb3⟩ := copy_into w2.drew p2 (some ⟨b, 0, none⟩) (m - n) (c - n) 256 256 g n (splice Z 0 X1) X2 t HG2.out HM2.out (fun h => ⟨HP2.out h, ⟨b, 0, none⟩, rfl, fun j v h => by rw [Go.WideShapes.add_plain, Nat.zero_add]; exact (hb2.cell (p := ⟨b, j, none⟩) hbg).trans (HX2.out j v h)⟩) HF2.out HO2.out
    have HG3 := hid hg3
    have HB3 := hid hb3
    clear hb2 hg3 hb3
    go_wp2_with fail
    clear S1 HW HX1 HM1 HF1 HO1 HX2 HC
    go_region
    all_goals go_wp2_with fail
    all_goals go_end0
    all_goals exact ⟨rfl, by rw [← HF.out]; exact HG3.out, HB2.out.drew.trans HB3.out⟩

end Go.Proofs.YtcbncdigejjcpaaGreatDoor.Dk

namespace Go.Proofs.YtcbncdigejjcpaaGreatDoor.Dk
open Go.RowKit

theorem make_run (n : Nat) (k : Int) (hk : k = n) (hn : n ≤ 256) (u : World) : (Instr.makeSlice 23 (.int .i64 k) (.int .i64 k)).run Tryz.prog u =
    .ok (.slice (some ⟨u.heap.size, 0, none⟩) n n) (u.alloc (.cells (List.replicate n (txt [])).toArray 9)) := by
  subst hk
  obtain ⟨i0, hi, hz0, hz1, hz2⟩ := info_parts infoS
  have h := run_make (P := Tryz.prog) u 23 9 i0 (.string ⟨#[]⟩) Tryz.underlying23 hi hz0 .i64 .i64 (n : Int) (n : Int) (by omega) (Int.le_refl _) (by rw [hz2]; omega) (by omega)
  have e : madeCells (Value.string ⟨#[]⟩).cells n = (List.replicate n (txt [])).toArray := by
    apply Array.ext'
    rw [show (Value.string ⟨#[]⟩).cells = #[Value.string ⟨#[]⟩] from rfl, toList_madeCells_one]
  rw [hz1, Nat.mul_one, Int.toNat_natCast, e] at h
  exact h
theorem dq_turn {w w' : World} {b : Nat} {L : Row} (h : Dq w b L) (he : w'.heap[b]? = w.heap[b]?) : Dq w' b L := by
  obtain ⟨cs, f, hc, h⟩ := h
  exact ⟨cs, f, he.trans hc, h⟩
theorem dq_lt {w : World} {b : Nat} {L : Row} (h : Dq w b L) : b < w.heap.size := by
  obtain ⟨cs, f, hc, _⟩ := h
  exact (Array.getElem?_eq_some_iff.1 hc).1
set_option maxHeartbeats 2000000 in
set_option maxRecDepth 100000 in
/-- Range -/
theorem range_any (b : Nat) (L : Row) (f t : Int) (w : World) (h : Dq w b L) (f0 : -9223372036854775808 ≤ f) (f1 : f ≤ 9223372036854775807) (t0 : -9223372036854775808 ≤ t) (t1 : t ≤ 9223372036854775807) :
    Calls Tryz.prog 95 #[ptr b, .int .i64 f, .int .i64 t] w fun e w' => ∃ p c, e = .returned (.slice p (rangeL L f t).length c) ∧ Hid (Tl (New w) w' (.slice p (rangeL L f t).length c) (rangeL L f t) ∧ Dq w' b L ∧ Keep (But b) w w') := by
  have HD := hid h
  have hb := dq_lt h
  obtain ⟨cs, g, hc, hsz, h1, h2, hr⟩ := h
  have c2 : w.cell? ⟨b, 257, none⟩ = some (.int .i64 L.length) := by rw [dq_cells hc]; exact h2
  have hn := hr.len
  have HC := hid (clamp_any f t L.length w f0 f1 t0 t1 (by omega) (by omega))
  obtain ⟨r1, r2, r3, r4⟩ := range_bounds L f t
  obtain ⟨x, hx⟩ : ∃ x, x = (clA f t L.length).toNat := ⟨_, rfl⟩
  obtain ⟨y, hy⟩ : ∃ y, y = (clB f t L.length).toNat := ⟨_, rfl⟩
  rw [show rangeL L f t = (L.drop x).take (y - x) by unfold rangeL; rw [← hx, ← hy]]
  rw [← hx, ← hy] at r1
  rw [← hy] at r2
  rw [show clA f t L.length = (x : Int) by omega, show clB f t L.length = (y : Int) by omega] at HC
  clear hx hy r3 r4
  have hyz : (y : Int) ≤ 256 := by omega
  have hxz : (x : Int) ≤ 256 := by omega
  obtain ⟨m, hm⟩ : ∃ m, m = y - x := ⟨_, rfl⟩
  rw [← hm]
  have hM := make_run m ((y : Int) - x) (by omega) (by omega) w
  obtain ⟨w2, hw2⟩ : ∃ w2, w2 = w.alloc (.cells (List.replicate m (txt [])).toArray 9) := ⟨_, rfl⟩
  have HLay := hid (lay_any b g x m m w.heap.size cs L (List.replicate m (txt [])) 9 w2 (by rw [hw2, heap_alloc_old w _ hb]; exact hc) h1 hr (by omega) (by rw [hw2]; exact heap_alloc_new w _) hb (by simp) (Nat.le_refl _) (by omega))
  have HK : Hid (Below w.heap.size w w2) := by unfold Hid; rw [hw2]; exact below_alloc w _
  rw [← hw2] at hM
  have hlen : ((L.drop x).take m).length = m := by simp; omega
  clear hc hsz h1 h2 hr hm hw2
  obtain ⟨R, hR⟩ : ∃ R, R = (L.drop x).take m := ⟨_, rfl⟩
  rw [← hR] at HLay hlen
  rw [← hR]
  clear hR
  go_enter Tryz.func95, Tryz.ntmps95
  go_wp2_with fail
  refine HC.out.mono ?_; rintro e w1 ⟨rfl, rfl⟩
  go_wp2_with fail
  refine HLay.out.mono ?_; rintro e w3 ⟨rfl, hh⟩
  have H3 := hid hh.out
  clear hh
  go_wp2_with fail
  go_ret
  have hB := HK.out.trans H3.out.2
  refine ⟨some ⟨w1.heap.size, 0, none⟩, m, by rw [hlen]; rfl, .inr ⟨w1.heap.size, 0, m, rfl, by omega, Nat.le_refl _, (Array.getElem?_eq_some_iff.1 H3.out.1).1, fun i hi => ?_⟩, dq_turn HD.out (hB.block b hb), Keep.of_below hB⟩
  rw [cell_of_row _ _ _ _ _ _ H3.out.1, Nat.zero_add]
  simp [hi]
end Go.Proofs.YtcbncdigejjcpaaGreatDoor.Dk
