/- NuModel, NuP, NuParse, ReRep, ReSame0, ReRead, ReRows, ReBulk, ReList, ReNum, DkClamp, DkModel, DkRing, DkMeth, DkBase. -/
import Derived.Lib.ItoaMem
import Derived.Lib.Strings
import Derived.Test.YtcbncdigejjcpaaGreatDoorM03
import Derived.Test.YtcbncdigejjcpaaGreatDoorM07
import Derived.Deep.WholeRow
import Derived.Deep.RegionLaw
import Derived.Deep.RegionWith
namespace Go.Proofs.YtcbncdigejjcpaaGreatDoor.Num
open Go

abbrev dec (n : Nat) : List UInt8 := Lib.decDigits n
theorem digit_nat (n : Nat) (h : n < 10) : (UInt8.ofNat (48 + n)).toNat = 48 + n := by
  rw [UInt8.toNat_ofNat']; omega
theorem dec_small {n : Nat} (h : n < 10) : dec n = [UInt8.ofNat (48 + n)] := Lib.decDigits_one h
theorem dec_big {n : Nat} (h : ¬ n < 10) : dec n = dec (n / 10) ++ [UInt8.ofNat (48 + n % 10)] := by
  unfold dec; rw [Lib.decDigits, dif_neg h]
theorem dec_ne (n : Nat) : dec n ≠ [] := by
  by_cases h : n < 10
  · rw [dec_small h]; simp
  · rw [dec_big h]; simp
/-- all are digits -/
def Dig (l : List UInt8) : Prop := ∀ b ∈ l, 48 ≤ b.toNat ∧ b.toNat ≤ 57
theorem dec_dig (n : Nat) : Dig (dec n) := by
  induction n using Nat.strongRecOn with
  | ind n ih =>
    by_cases h : n < 10
    · rw [dec_small h]
      intro b hb
      have : b = UInt8.ofNat (48 + n) := by simpa using hb
      subst this
      rw [digit_nat n h]; omega
    · rw [dec_big h]
      intro b hb
      rcases List.mem_append.1 hb with hb | hb
      · exact ih (n / 10) (by omega) b hb
      · have : b = UInt8.ofNat (48 + n % 10) := by simpa using hb
        subst this
        rw [digit_nat _ (by omega)]; omega
/-- the number that digits give -/
def val (l : List UInt8) : Nat := l.foldl (fun a d => a * 10 + (d.toNat - 48)) 0
theorem val_snoc (l : List UInt8) (d : UInt8) : val (l ++ [d]) = val l * 10 + (d.toNat - 48) := by simp [val]
theorem val_nil : val [] = 0 := rfl
theorem val_app (l : List UInt8) : ∀ r, val l ≤ val (l ++ r) := by
  intro r
  induction r generalizing l with
  | nil => simp
  | cons d r ih =>
    have h1 := ih (l ++ [d])
    rw [List.append_assoc, List.singleton_append] at h1
    have h2 := val_snoc l d
    omega
theorem val_take (l : List UInt8) (k : Nat) : val (l.take k) ≤ val l := by
  have := val_app (l.take k) (l.drop k)
  rwa [List.take_append_drop] at this
theorem val_take_succ (l : List UInt8) (k : Nat) (h : k < l.length) : val (l.take (k + 1)) = val (l.take k) * 10 + (l[k].toNat - 48) := by
  rw [List.take_succ_eq_append_getElem h, val_snoc]
theorem val_dec (n : Nat) : val (dec n) = n := by
  induction n using Nat.strongRecOn with
  | ind n ih =>
    by_cases h : n < 10
    · rw [dec_small h]
      have := digit_nat n h
      simp only [val, List.foldl_cons, List.foldl_nil, this]
      omega
    · rw [dec_big h, val_snoc, ih (n / 10) (by omega), digit_nat _ (by omega)]
      omega
/-- a text that begins with a minus -/
def neg (l : List UInt8) : Bool := l.head? == some 45
/-- what stands behind it -/
def digs (l : List UInt8) : List UInt8 := if neg l then l.tail else l
theorem neg_minus (l : List UInt8) : neg (45 :: l) = true := by simp [neg]
theorem neg_not {l : List UInt8} (h : neg l = true) : ∃ r, l = 45 :: r := by
  cases l with
  | nil => simp [neg] at h
  | cons b l => simp [neg] at h; exact ⟨l, by rw [h]⟩
theorem digs_minus (l : List UInt8) : digs (45 :: l) = l := by simp [digs, neg]
theorem digs_plain {l : List UInt8} (h : neg l = false) : digs l = l := by simp [digs, h]
/-- a digit -/
def isD (b : UInt8) : Bool := decide (48 ≤ b.toNat ∧ b.toNat ≤ 57)
/-- a text that is written as a number is -/
def formed (l : List UInt8) : Bool := !(digs l).isEmpty && (!((digs l).head? == some 48) || l == [48]) && (digs l).all isD
theorem all_dig {l : List UInt8} : l.all isD = true ↔ Dig l := by simp [Dig, isD, List.all_eq_true]
/-- what a formed text is -/
theorem formed_parts {l : List UInt8} (h : formed l = true) : Dig (digs l) ∧ (l = [48] ∨ ∃ d r, digs l = d :: r ∧ 49 ≤ d.toNat) := by
  simp only [formed, Bool.and_eq_true, Bool.or_eq_true, Bool.not_eq_true', beq_eq_false_iff_ne, beq_iff_eq, ne_eq] at h
  obtain ⟨⟨h1, h2⟩, h3⟩ := h
  have hD := all_dig.1 h3
  refine ⟨hD, ?_⟩
  rcases h2 with h2 | h2
  · right
    cases hd : digs l with
    | nil => rw [hd] at h1; simp at h1
    | cons d r =>
      have := hD d (by rw [hd]; simp)
      rw [hd] at h2
      have hne : ¬ d = 48 := by simpa using h2
      refine ⟨d, r, rfl, ?_⟩
      have : d.toNat ≠ 48 := fun e => hne (UInt8.toNat_inj.1 e)
      omega
  · exact .inl h2
/-- the number that a text is, if it is one -/
def num (l : List UInt8) : Int := if neg l then -(val (digs l) : Int) else val (digs l)
/-- it can be held -/
def fits (l : List UInt8) : Bool := if neg l then decide (val (digs l) ≤ 9223372036854775808) else decide (val (digs l) ≤ 9223372036854775807)
/-- what Parse tells: the number and the error -/
def tellV (l : List UInt8) : Int := if formed l && fits l then num l else 0
def tellE (l : List UInt8) : Int := if formed l then (if fits l then 0 else 51) else 50
theorem head_dec (n : Nat) : (dec n).head? = some 48 → n = 0 := by
  induction n using Nat.strongRecOn with
  | ind n ih =>
    by_cases h : n < 10
    · rw [dec_small h]
      intro e
      have e : UInt8.ofNat (48 + n) = 48 := by simpa using e
      have := congrArg UInt8.toNat e
      rw [digit_nat n h] at this
      have : 48 + n = 48 := this
      omega
    · rw [dec_big h]
      intro e
      have := dec_ne (n / 10)
      cases hd : dec (n / 10) with
      | nil => exact absurd hd this
      | cons d r =>
        rw [hd] at e
        have := ih (n / 10) (by omega) (by rw [hd]; simpa using e)
        omega
theorem neg_dec (n : Nat) : neg (dec n) = false := by
  cases hn : neg (dec n)
  · rfl
  · obtain ⟨r, hr⟩ := neg_not hn
    have := dec_dig n 45 (by rw [hr]; simp)
    revert this; decide
/-- a number that is written is formed, fits, and is the number -/
theorem itoa_formed (n : Int) (h0 : -9223372036854775808 ≤ n) (h1 : n ≤ 9223372036854775807) : formed (Lib.itoa n) = true ∧ fits (Lib.itoa n) = true ∧ num (Lib.itoa n) = n := by
  by_cases hv : 0 ≤ n
  · obtain ⟨m, rfl⟩ := Int.eq_ofNat_of_zero_le hv
    rw [Lib.itoa_nonneg]
    have hn := neg_dec m
    have hd := digs_plain hn
    have hne := dec_ne m
    have hh := head_dec m
    have hD := all_dig.2 (dec_dig m)
    have hv := val_dec m
    refine ⟨?_, ?_, ?_⟩
    · show formed (dec m) = true
      simp only [formed, hd, hD, Bool.and_true, Bool.and_eq_true, Bool.or_eq_true, Bool.not_eq_true', beq_eq_false_iff_ne, beq_iff_eq, ne_eq, List.isEmpty_eq_false_iff]
      refine ⟨hne, ?_⟩
      by_cases e : (dec m).head? = some 48
      · right
        rw [hh e, dec_small (by decide)]
        decide
      · exact .inl e
    · show fits (dec m) = true
      simp only [fits, hn, hd, hv, Bool.false_eq_true, if_false, decide_eq_true_eq]; omega
    · show num (dec m) = m
      simp only [num, hn, hd, hv, Bool.false_eq_true, if_false]
  · obtain ⟨m, rfl⟩ : ∃ m : Nat, n = -(m : Int) := ⟨n.natAbs, by omega⟩
    rw [Lib.itoa_neg m (by omega)]
    have hne := dec_ne m
    have hD := all_dig.2 (dec_dig m)
    have hv := val_dec m
    refine ⟨?_, ?_, ?_⟩
    · show formed (45 :: dec m) = true
      simp only [formed, digs_minus, hD, Bool.and_true, Bool.and_eq_true, Bool.or_eq_true, Bool.not_eq_true', beq_eq_false_iff_ne, beq_iff_eq, ne_eq, List.isEmpty_eq_false_iff]
      exact ⟨hne, .inl fun e => by have := head_dec m e; omega⟩
    · show fits (45 :: dec m) = true
      simp only [fits, neg_minus, digs_minus, hv, if_true, decide_eq_true_eq]; omega
    · show num (45 :: dec m) = _
      simp only [num, neg_minus, digs_minus, hv, if_true]

end Go.Proofs.YtcbncdigejjcpaaGreatDoor.Num

namespace Go.Proofs.YtcbncdigejjcpaaGreatDoor.Num

/-- which points may be -/
def rt (x y : Int) : Bool := decide (-1048576 ≤ x ∧ x ≤ 1048576 ∧ -1048576 ≤ y ∧ y ≤ 1048576)
/-- a point, and an error -/
structure Tel where
  x : Int
  y : Int
  e : Int
def may (x y : Int) : Tel := if rt x y then ⟨x, y, 0⟩ else ⟨0, 0, 91⟩
def addP (a b c d : Int) : Tel := if rt a b && rt c d then may (a + c) (b + d) else ⟨0, 0, 91⟩
def mulP (a b c d : Int) : Tel := if rt a b && rt c d then may (a * c - b * d) (a * d + b * c) else ⟨0, 0, 91⟩
def turn1 (p : Int × Int) : Int × Int := (-p.2, p.1)
def turnK (k : Nat) (p : Int × Int) : Int × Int := Nat.rec p (fun _ q => turn1 q) k
def turnP (x y n : Int) : Int × Int := if rt x y then turnK (n % 4).toNat (x, y) else (0, 0)
def normP (x y : Int) : Int := if rt x y then x * x + y * y else 0
/-- the writing -/
def signY (y : Int) : List UInt8 := if y < 0 then Lib.itoa y else 43 :: Lib.itoa y
def wrt (x y : Int) : List UInt8 := Lib.itoa x ++ (signY y ++ [105])
def printP (x y : Int) : List UInt8 := if rt x y then wrt x y else []
end Go.Proofs.YtcbncdigejjcpaaGreatDoor.Num

namespace Go.Proofs.YtcbncdigejjcpaaGreatDoor.Num

/-- a text is a point's writing -/
def Wr (s : List UInt8) (x y : Int) : Prop := rt x y = true ∧ wrt x y = s
open Classical in
/-- the point whose writing a text is -/
noncomputable def parseP (s : List UInt8) : Tel := if h : ∃ p : Int × Int, Wr s p.1 p.2 then ⟨(Classical.choose h).1, (Classical.choose h).2, 0⟩ else ⟨0, 0, 90⟩
end Go.Proofs.YtcbncdigejjcpaaGreatDoor.Num

namespace Go.Proofs.YtcbncdigejjcpaaGreatDoor.Re
open Go.RowKit

/-- a reply -/
inductive Rep where
  | mk (kind int : Int) (text : List UInt8) (list : List Rep)
def Rep.kind : Rep → Int | .mk k _ _ _ => k
def Rep.int : Rep → Int | .mk _ n _ _ => n
def Rep.text : Rep → List UInt8 | .mk _ _ t _ => t
def Rep.list : Rep → List Rep | .mk _ _ _ l => l
/-- what a reply's cells can hold -/
structure Fit (r : Rep) : Prop where
  k0 : -9223372036854775808 ≤ r.kind
  k1 : r.kind ≤ 9223372036854775807
  n0 : -9223372036854775808 ≤ r.int
  n1 : r.int ≤ 9223372036854775807
  t : r.text.length ≤ 9223372036854775807
  l : r.list.length ≤ 9223372036854775807
/-- a row of replies in memory, each of which is as R says -/
def RowOf (P : Nat → Prop) (w : World) (R : Value → Rep → Prop) (p : Option Addr) (l : List Rep) : Prop :=
  l ≠ [] → ∃ b o, p = some ⟨b, o, none⟩ ∧ P b ∧ ∀ i (h : i < l.length), ∃ q c, w.cell? ⟨b, o + i * 4, none⟩ = some (.int .i64 l[i].kind) ∧ w.cell? ⟨b, o + i * 4 + 1, none⟩ = some (.int .i64 l[i].int) ∧ w.cell? ⟨b, o + i * 4 + 2, none⟩ = some (.string ⟨l[i].text.toArray⟩) ∧ w.cell? ⟨b, o + i * 4 + 3, none⟩ = some (.slice q l[i].list.length c) ∧
    R (.agg #[.int .i64 l[i].kind, .int .i64 l[i].int, .string ⟨l[i].text.toArray⟩, .slice q l[i].list.length c]) l[i]
/-- a value is a reply, at most so deep; the rows that it leads to lie in blocks of P -/
def Rp (P : Nat → Prop) (w : World) : Nat → Value → Rep → Prop
  | 0, _, _ => False
  | d + 1, v, r => ∃ p c, v = .agg #[.int .i64 r.kind, .int .i64 r.int, .string ⟨r.text.toArray⟩, .slice p r.list.length c] ∧ Fit r ∧ RowOf P w (Rp P w d) p r.list
theorem RowOf.nil (P : Nat → Prop) (w : World) (R : Value → Rep → Prop) (p : Option Addr) : RowOf P w R p [] := fun h => absurd rfl h
theorem Rp.open {P : Nat → Prop} {w : World} : ∀ {d : Nat} {v : Value} {r : Rep}, Rp P w d v r → ∃ e p c, d = e + 1 ∧ v = .agg #[.int .i64 r.kind, .int .i64 r.int, .string ⟨r.text.toArray⟩, .slice p r.list.length c] ∧ Fit r ∧ RowOf P w (Rp P w e) p r.list
  | 0, _, _, h => h.elim
  | d + 1, _, _, ⟨p, c, h1, h2, h3⟩ => ⟨d, p, c, rfl, h1, h2, h3⟩
theorem cell_turn {w w' : World} {b k : Nat} {v : Value} (h : w.cell? ⟨b, k, none⟩ = some v) (he : w'.heap[b]? = w.heap[b]?) : w'.cell? ⟨b, k, none⟩ = some v := by
  rw [World.cell?_of_block (w := w) he]; exact h
/-- to another world in which the blocks are the same -/
theorem Rp.turn {P Q : Nat → Prop} {w w' : World} (hk : ∀ b, P b → b < w.heap.size → Q b ∧ w'.heap[b]? = w.heap[b]?) : ∀ {d e : Nat} {v : Value} {r : Rep}, d ≤ e → Rp P w d v r → Rp Q w' e v r := by
  intro d
  induction d with
  | zero => intro e v r _ h; exact h.elim
  | succ d ih =>
    intro e v r hde h
    obtain ⟨p, c, h1, h2, h3⟩ := h
    cases e with
    | zero => omega
    | succ e =>
      refine ⟨p, c, h1, h2, fun hne => ?_⟩
      obtain ⟨b, o, e1, e2, e3⟩ := h3 hne
      have hpos : 0 < r.list.length := List.length_pos_iff.2 hne
      obtain ⟨_, _, c0, _⟩ := e3 0 hpos
      obtain ⟨k1, k2⟩ := hk b e2 (block_lt_of_cell c0)
      refine ⟨b, o, e1, k1, fun i hi => ?_⟩
      obtain ⟨q, c', c0, c1, c2, c3, c4⟩ := e3 i hi
      exact ⟨q, c', cell_turn c0 k2, cell_turn c1 k2, cell_turn c2 k2, cell_turn c3 k2, ih (by omega) c4⟩
theorem RowOf.turn {P Q : Nat → Prop} {w w' : World} (hk : ∀ b, P b → b < w.heap.size → Q b ∧ w'.heap[b]? = w.heap[b]?) {d e : Nat} {p : Option Addr} {l : List Rep} (hde : d ≤ e) (h : RowOf P w (Rp P w d) p l) : RowOf Q w' (Rp Q w' e) p l := fun hne => by
  obtain ⟨b, o, e1, e2, e3⟩ := h hne
  have hpos : 0 < l.length := List.length_pos_iff.2 hne
  obtain ⟨_, _, c0, _⟩ := e3 0 hpos
  obtain ⟨k1, k2⟩ := hk b e2 (block_lt_of_cell c0)
  refine ⟨b, o, e1, k1, fun i hi => ?_⟩
  obtain ⟨q, c', c0, c1, c2, c3, c4⟩ := e3 i hi
  exact ⟨q, c', cell_turn c0 k2, cell_turn c1 k2, cell_turn c2 k2, cell_turn c3 k2, c4.turn hk hde⟩
theorem Rp.below {P : Nat → Prop} {w w' : World} {n : Nat} (hb : Below n w w') (hn : w.heap.size ≤ n) {d : Nat} {v : Value} {r : Rep} (h : Rp P w d v r) : Rp P w' d v r :=
  h.turn (fun b hp hlt => ⟨hp, hb.block b (by omega)⟩) (Nat.le_refl _)
end Go.Proofs.YtcbncdigejjcpaaGreatDoor.Re

namespace Go.Proofs.YtcbncdigejjcpaaGreatDoor.Re
open Go.RowKit

theorem below2 (w : World) (o o' : Obj) : Below w.heap.size w ((w.alloc o).alloc o') := (below_alloc w o).alloc (by simp) o'
end Go.Proofs.YtcbncdigejjcpaaGreatDoor.Re

namespace Go.Proofs.YtcbncdigejjcpaaGreatDoor.Re
open Go.RowKit

theorem infoRep (x y z u : Value) : (Tryz.prog.info? 32).map (·.size) = some (#[x, y, z, u] : Array Value).size := by
  show _ = some 4
  kernel_rfl
theorem oneR (x y : Int) (s : ByteArray) (a : Option Addr) (m n : Nat) : (#[.int .i64 x, .int .i64 y, .string s, .slice a m n] : Array Value).all (·.oneCell') = true := by simp [Value.oneCell']
theorem ret_rep1 {fn : Func} {p : Tmp} (h : fn.results = #[.cell p 32]) {tmps : Array Value} {w : World} {b : Nat} {x y z u : Value} (hp : tmps.getD p undef = .pointer (some ⟨b, 0, none⟩)) (hB : w.heap[b]? = some (.cells #[x, y, z, u] 32 (0, 0))) :
    (results fn tmps).run Tryz.prog w = .ok (.agg #[x, y, z, u]) w :=
  results_cell_row h tmps w b 32 #[x, y, z, u] (0, 0) _ hp hB Tryz.underlying32 rfl (infoRep x y z u)
theorem below_setRow {B : Nat} {a w : World} (h : Below B a w) {g : Nat} (hg : B ≤ g) (cs : Array Value) : Below B a (w.setRow g cs) :=
  h.trans ⟨rfl, rfl, rfl, by simp, fun k hk => setRow_other w g k cs (by omega)⟩
set_option maxHeartbeats 1000000 in
set_option maxRecDepth 100000 in
/-- Text -/
theorem text_any (t : List UInt8) (w : World) :
    Calls Tryz.prog 130 #[.string ⟨t.toArray⟩] w fun e w' => e = .returned (.agg #[.int .i64 4, .int .i64 0, .string ⟨t.toArray⟩, .slice none 0 0]) ∧ Below w.heap.size w w' := by
  go_enter Tryz.func130, Tryz.ntmps130
  go_wp2
  refine bodyPost_ret (v := .agg #[.int .i64 4, .int .i64 0, .string ⟨t.toArray⟩, .slice none 0 0]) ?_ rfl ?_
  · exact ret_rep1 rfl rfl (heap_alloc_new w _)
  · exact ⟨rfl, below_alloc w _⟩
end Go.Proofs.YtcbncdigejjcpaaGreatDoor.Re

namespace Go.Proofs.YtcbncdigejjcpaaGreatDoor.Re
open Go.RowKit

theorem infoR4 : (Tryz.prog.info? 32).map (fun i => (i.zero, i.size, i.bytes)) = some (some (.agg #[.int .i64 0, .int .i64 0, .string ⟨#[]⟩, .slice none 0 0]), 4, 56) := by kernel_rfl
/-- an append leaves the row where it was, or lays a new one -/
theorem append_where (w : World) (base : Nat) (v : Value) (n : Nat) (xs : List Value) (hown : w.ownsRow base 32 4 v n xs)
    (a : Addr) (news : List Value) (hl : news.length = 4) (hnews : ∀ j u, news[j]? = some u → w.cell? (a.add j) = some u) (h1 : ∀ u ∈ news, u.oneCell' = true) (hn : n ≤ 1000000000000) (v' : Value) (w' : World)
    (hrun : (Builtin.append_ #[30, 30] 30 #[v, .slice (some a) 1 1]).run Tryz.prog w = .ok v' w') : v'.ownBlock = v.ownBlock ∨ v'.ownBlock = some w.heap.size := by
  obtain ⟨i0, hi, hz0, hz1, hz2⟩ := info_parts infoR4
  have hl' : news.length = 1 * i0.size := by rw [hz1, hl]
  rcases hown.2 with ⟨rfl, rfl⟩ | ⟨g, cap, cur, rfl, hbg, hg, hnc, hcm, hcs, htake⟩
  · have hr := run_append_nil (P := Tryz.prog) w 30 30 32 i0 _ Tryz.underlying30 hi hz0 a 1 1 news hl' hnews (by omega) (by omega) (by rw [hz2]; omega)
    rw [hr] at hrun
    injection hrun with hrun _
    rw [← hrun]
    exact .inr rfl
  · by_cases hroom : n + 1 ≤ cap
    · have hr := run_append_room (P := Tryz.prog) w 30 30 32 i0 Tryz.underlying30 hi g n cap cur hg a 1 1 news hl' hnews h1 hroom (by rw [hl, hcs, hz1]; omega)
      rw [hr] at hrun
      injection hrun with hrun _
      rw [← hrun]
      exact .inl rfl
    · have holds : ∀ j u, xs[j]? = some u → w.cell? ((⟨g, 0, none⟩ : Addr).add j) = some u := hown.cells (g := g) rfl
      have hr := run_append_grow (P := Tryz.prog) w 30 30 32 i0 _ Tryz.underlying30 hi hz0 ⟨g, 0, none⟩ n cap xs (by rw [hz1]; exact hown.1) holds a 1 1 news hl' hnews (by omega) (by omega) (growslice_fits (by omega) (by rw [hz2]; omega))
      rw [hr] at hrun
      injection hrun with hrun _
      rw [← hrun]
      exact .inr rfl
/-- a row of a call's own, with the replies that it holds -/
def Rws (B : Nat) (W : World) (d : Nat) (v : Value) (acc : List Rep) : Prop :=
  ∃ xs, W.ownsRow B 32 4 v acc.length xs ∧ ∀ j (h : j < acc.length), ∃ q c, xs[j * 4]? = some (.int .i64 acc[j].kind) ∧ xs[j * 4 + 1]? = some (.int .i64 acc[j].int) ∧ xs[j * 4 + 2]? = some (.string ⟨acc[j].text.toArray⟩) ∧ xs[j * 4 + 3]? = some (.slice q acc[j].list.length c) ∧
    Rp (fun b => B ≤ b ∧ some b ≠ v.ownBlock) W d (.agg #[.int .i64 acc[j].kind, .int .i64 acc[j].int, .string ⟨acc[j].text.toArray⟩, .slice q acc[j].list.length c]) acc[j]
theorem Rws.nil (B : Nat) (W : World) (d : Nat) : Rws B W d (.slice none 0 0) [] := ⟨[], World.ownsRow_nil W B _ _, fun j h => absurd h (by simp)⟩
theorem Rws.below {B d : Nat} {W W' : World} {v : Value} {acc : List Rep} (h : Rws B W d v acc) (hb : Below W.heap.size W W') : Rws B W' d v acc := by
  obtain ⟨xs, h1, h2⟩ := h
  refine ⟨xs, owns_below h1 hb, fun j hj => ?_⟩
  obtain ⟨q, c, a0, a1, a2, a3, a4⟩ := h2 j hj
  exact ⟨q, c, a0, a1, a2, a3, a4.below hb (Nat.le_refl _)⟩
theorem Rws.shape {B d : Nat} {W : World} {v : Value} {acc : List Rep} (h : Rws B W d v acc) : ∃ p c, v = .slice p acc.length c := by
  obtain ⟨xs, h1, _⟩ := h
  rcases h1.2 with ⟨rfl, h0⟩ | ⟨g, cap, cur, rfl, _⟩
  · exact ⟨none, 0, by rw [h0]⟩
  · exact ⟨_, _, rfl⟩
theorem Rws.row {B d : Nat} {W : World} {p : Option Addr} {n c : Nat} {acc : List Rep} (h : Rws B W d (.slice p n c) acc) : n = acc.length ∧ RowOf (fun b => B ≤ b) W (Rp (fun b => B ≤ b) W d) p acc := by
  obtain ⟨xs, h1, h2⟩ := h
  rcases h1.2 with ⟨e, h0⟩ | ⟨g, cap, cur, e, hBg, _⟩
  · injection e with _ e2 _
    exact ⟨by omega, fun hne => absurd (List.eq_nil_of_length_eq_zero h0) hne⟩
  · injection e with e1 e2 e3
    subst e1 e2 e3
    refine ⟨rfl, fun hne => ⟨g, 0, rfl, hBg, fun i hi => ?_⟩⟩
    obtain ⟨q, c', a0, a1, a2, a3, a4⟩ := h2 i hi
    have cell : ∀ j u, xs[j]? = some u → W.cell? ⟨g, j, none⟩ = some u := fun j u hu => by
      have := World.ownsRow.cells h1 (g := g) rfl j u hu
      rwa [Go.WideShapes.add_plain, Nat.zero_add] at this
    simp only [Nat.zero_add]
    exact ⟨q, c', cell _ _ a0, cell _ _ a1, cell _ _ a2, cell _ _ a3, a4.turn (fun b hb _ => ⟨hb.1, rfl⟩) (Nat.le_refl _)⟩
theorem Rws.push {B d : Nat} {W : World} {v : Value} {acc : List Rep} (h : Rws B W d v acc) {r : Rep} {q : Option Addr} {c : Nat} (hB : B ≤ W.heap.size) (hl : acc.length ≤ 1000000000000)
    (hr : Rp (fun b => B ≤ b ∧ some b ≠ v.ownBlock) W d (.agg #[.int .i64 r.kind, .int .i64 r.int, .string ⟨r.text.toArray⟩, .slice q r.list.length c]) r) :
    ∃ v' W', (Builtin.append_ #[30, 30] 30 #[v, .slice (some ⟨W.heap.size, 0, none⟩) 1 1]).run Tryz.prog (W.alloc (.cells #[.int .i64 r.kind, .int .i64 r.int, .string ⟨r.text.toArray⟩, .slice q r.list.length c] 32)) = .ok v' W' ∧ Rws B W' d v' (acc ++ [r]) ∧ Below B W W' := by
  obtain ⟨i0, hi, hz0, hz1, hz2⟩ := info_parts infoR4
  obtain ⟨xs, h1, h2⟩ := h
  generalize hob : (.cells #[.int .i64 r.kind, .int .i64 r.int, .string ⟨r.text.toArray⟩, .slice q r.list.length c] 32 : Obj) = ob
  have hba := below_alloc W ob
  have hown' := owns_below h1 hba
  have hnews : ∀ j u, ([.int .i64 r.kind, .int .i64 r.int, .string ⟨r.text.toArray⟩, .slice q r.list.length c] : List Value)[j]? = some u → (W.alloc ob).cell? ((⟨W.heap.size, 0, none⟩ : Addr).add j) = some u := fun j u hj => by
    rw [Go.WideShapes.add_plain, cell_of_row _ _ _ _ _ _ ((heap_alloc_new W ob).trans (congrArg some hob.symm))]
    simpa using hj
  have hone : ∀ u ∈ ([.int .i64 r.kind, .int .i64 r.int, .string ⟨r.text.toArray⟩, .slice q r.list.length c] : List Value), u.oneCell' = true := by
    intro u hu
    simp only [List.mem_cons, List.not_mem_nil, or_false] at hu
    rcases hu with rfl | rfl | rfl | rfl <;> rfl
  obtain ⟨v', w', hrun, ho, hgr, _⟩ := run_append_own (P := Tryz.prog) (W.alloc ob) B 30 30 32 i0 (.agg #[.int .i64 0, .int .i64 0, .string ⟨#[]⟩, .slice none 0 0]) 4 56 Tryz.underlying30 hi hz0 hz1 hz2 rfl (by decide) _ _ _ hown' ⟨W.heap.size, 0, none⟩ 1 1 [.int .i64 r.kind, .int .i64 r.int, .string ⟨r.text.toArray⟩, .slice q r.list.length c] rfl hnews hone (by unfold maxLen; omega) (by omega) (by simp; omega)
  have hwh := append_where (W.alloc ob) B v acc.length xs hown' ⟨W.heap.size, 0, none⟩ _ rfl hnews hone hl v' w' hrun
  have hk : ∀ b, (B ≤ b ∧ some b ≠ v.ownBlock) → b < W.heap.size → (B ≤ b ∧ some b ≠ v'.ownBlock) ∧ w'.heap[b]? = W.heap[b]? := fun b hb hlt => by
    refine ⟨⟨hb.1, ?_⟩, ?_⟩
    · rcases hwh with e | e
      · rw [e]; exact hb.2
      · rw [e]; intro e2; injection e2 with e2; simp at e2; omega
    · rw [hgr.block b (by simp; omega) hb.2]; exact hba.block b hlt
  refine ⟨v', w', hrun, ⟨xs ++ [.int .i64 r.kind, .int .i64 r.int, .string ⟨r.text.toArray⟩, .slice q r.list.length c], by rw [List.length_append]; exact ho, fun j hj => ?_⟩, ((Below.refl B W).alloc hB _).grown hgr (by simp; omega) (fun k hk => (World.ownsRow.lt h1 k hk).1)⟩
  have hxl : xs.length = acc.length * 4 := h1.1
  rw [List.length_append, List.length_singleton] at hj
  by_cases hin : j < acc.length
  · obtain ⟨q', c', a0, a1, a2, a3, a4⟩ := h2 j hin
    rw [List.getElem_append_left hin]
    refine ⟨q', c', ?_, ?_, ?_, ?_, a4.turn hk (Nat.le_refl _)⟩
    all_goals rw [List.getElem?_append_left (by omega)]; assumption
  · obtain rfl : j = acc.length := by omega
    rw [List.getElem_append_right (by omega)]
    simp only [Nat.sub_self, List.getElem_cons_zero]
    refine ⟨q, c, ?_, ?_, ?_, ?_, hr.turn hk (Nat.le_refl _)⟩
    all_goals rw [List.getElem?_append_right (by omega), hxl]
    · rw [Nat.sub_self]; rfl
    · rw [Nat.add_sub_cancel_left]; rfl
    · rw [Nat.add_sub_cancel_left]; rfl
    · rw [Nat.add_sub_cancel_left]; rfl

end Go.Proofs.YtcbncdigejjcpaaGreatDoor.Re

namespace Go.Proofs.YtcbncdigejjcpaaGreatDoor.Re
open Go.RowKit

/-- a reply's row, cell by cell -/
theorem row_facts {w : World} {b : Nat} {x y z u : Value} (h : w.heap[b]? = some (.cells #[x, y, z, u] 32 (0, 0))) :
    (w.cell? ⟨b, 0, none⟩ = some x ∧ w.cell? ⟨b, 1, none⟩ = some y ∧ w.cell? ⟨b, 2, none⟩ = some z ∧ w.cell? ⟨b, 3, none⟩ = some u) ∧ w.frozen? ⟨b, 0, none⟩ = false ∧ w.frozen? ⟨b, 1, none⟩ = false ∧ w.frozen? ⟨b, 2, none⟩ = false ∧ w.frozen? ⟨b, 3, none⟩ = false := by
  refine ⟨⟨cell_of_row w _ 0 _ _ _ h, cell_of_row w _ 1 _ _ _ h, cell_of_row w _ 2 _ _ _ h, cell_of_row w _ 3 _ _ _ h⟩, ?_, ?_, ?_, ?_⟩
  all_goals simp [World.frozen?, h]
end Go.Proofs.YtcbncdigejjcpaaGreatDoor.Re

namespace Go.Proofs.YtcbncdigejjcpaaGreatDoor.Re
open Go.RowKit

/-- where texts lie -/
def Strs (w : World) (p : Option Addr) (l : List (List UInt8)) : Prop := l ≠ [] → ∃ b o, p = some ⟨b, o, none⟩ ∧ ∀ i (h : i < l.length), w.cell? ⟨b, o + i, none⟩ = some (.string ⟨l[i].toArray⟩)
theorem Strs.below {w w' : World} {n : Nat} {p : Option Addr} {l : List (List UInt8)} (h : Strs w p l) (hb : Below n w w') (hn : w.heap.size ≤ n) : Strs w' p l := fun hne => by
  obtain ⟨b, o, rfl, hc⟩ := h hne
  exact ⟨b, o, rfl, fun i hi => by rw [hb.cell (Nat.lt_of_lt_of_le (block_lt_of_cell (hc i hi)) hn)]; exact hc i hi⟩
/-- a text as a reply -/
def bulkR (t : List UInt8) : Rep := .mk 4 0 t []
def listR (l : List (List UInt8)) : Rep := .mk 6 0 [] (l.map bulkR)
theorem step_append_run {P : Program} {ops : Array Oper} {o : Oper} {a : Act} {w : World} {K : Act → World → Prop} {Q : Exit → Act → World → Prop} {E : Prop} (hw : Region.wanted o (yielded ops a.tmps) = true) (s x : Operand) (t : TypeId)
    (ho : o.op = .call { callee := .builtin .append, args := #[s, x], argTypes := #[t, t] }) (v u v' : Value) (w' : World) (hs : a.eval s = v) (hx : a.eval x = u)
    (hrun : (Builtin.append_ #[t, t] o.type #[v, u]).run P w = .ok v' w') (h : K (a.put o.dst v') w') : if Region.wanted o (yielded ops a.tmps) = true then o.wp P a w K Q else E := by
  rw [if_pos hw]
  unfold Oper.wp execOp
  simp only [ho, resolve, invoke, builtin, Sem.run_bind, Sem.run_pure, Result.andThen_ok, List.map_toArray, List.map_cons, List.map_nil, hs, hx, hrun]
  exact h
theorem bulk_rp {P : Nat → Prop} {w : World} {t : List UInt8} (h : t.length ≤ 9223372036854775807) : Rp P w 1 (.agg #[.int .i64 (bulkR t).kind, .int .i64 (bulkR t).int, .string ⟨(bulkR t).text.toArray⟩, .slice none (bulkR t).list.length 0]) (bulkR t) :=
  ⟨none, 0, rfl, ⟨by simp [bulkR, Rep.kind], by simp [bulkR, Rep.kind], by simp [bulkR, Rep.int], by simp [bulkR, Rep.int], h, by simp [bulkR, Rep.list]⟩, RowOf.nil _ _ _ _⟩
theorem take_bulk {l : List (List UInt8)} {i : Nat} (h : i < l.length) : (l.take (i + 1)).map bulkR = (l.take i).map bulkR ++ [bulkR l[i]] := by
  rw [List.take_succ_eq_append_getElem h, List.map_append]; rfl
theorem Rws.keep {B d : Nat} {W W' : World} {v : Value} {acc : List Rep} (h : Rws B W d v acc) (hk : ∀ b, B ≤ b → b < W.heap.size → W'.heap[b]? = W.heap[b]?) : Rws B W' d v acc := by
  obtain ⟨xs, h1, h2⟩ := h
  refine ⟨xs, ⟨h1.1, ?_⟩, fun j hj => ?_⟩
  · rcases h1.2 with h | ⟨g, cap, cur, e1, e2, e3, e4⟩
    · exact .inl h
    · exact .inr ⟨g, cap, cur, e1, e2, (hk g e2 (Array.getElem?_eq_some_iff.1 e3).1).trans e3, e4⟩
  · obtain ⟨q, c, a0, a1, a2, a3, a4⟩ := h2 j hj
    exact ⟨q, c, a0, a1, a2, a3, a4.turn (fun b hb hlt => ⟨hb, hk b hb.1 hlt⟩) (Nat.le_refl _)⟩
set_option maxHeartbeats 2000000 in
set_option maxRecDepth 100000 in
/-- List -/
theorem list_any (p : Option Addr) (l : List (List UInt8)) (cap : Nat) (w : World) (hA : Strs w p l) (hl : l.length ≤ 1000000000000) (ht : ∀ t ∈ l, t.length ≤ 9223372036854775807) :
    Calls Tryz.prog 80 #[.slice p l.length cap] w fun e w' => ∃ (q : Option Addr) (c : Nat), e = .returned (.agg #[.int .i64 6, .int .i64 0, .string ⟨#[]⟩, .slice q l.length c]) ∧
      Hid (Rp (fun b => w.heap.size ≤ b) w' 2 (.agg #[.int .i64 6, .int .i64 0, .string ⟨#[]⟩, .slice q l.length c]) (listR l) ∧ Below w.heap.size w w') := by
  have HA := hid hA
  have HT := hid ht
  have HT2 := hid fun (t : List UInt8) (w : World) => text_any t w
  have HZ0 := hid fun (o o' : Obj) => heap_alloc2_old w o o'
  have HZ1 := hid fun (o o' : Obj) => heap_alloc2_new w o o'
  clear hA ht
  go_enter Tryz.func80, Tryz.ntmps80
  go_wp2_with fail
  go_loopw [9] (fun v9 W => ∃ (i : Nat) (v : Value), v9 = .int .i64 i ∧ i ≤ l.length ∧ Hid (W.heap[w.heap.size]? = some (.cells #[.int .i64 0, .int .i64 0, .string ⟨#[]⟩, .slice none 0 0] 32 (0, 0))) ∧ Hid (W.heap[w.heap.size + 1]? = some (.cells #[.int .i64 6, .int .i64 0, .string ⟨#[]⟩, v] 32 (0, 0))) ∧ Hid (Rws (w.heap.size + 2) W 1 v ((l.take i).map bulkR)) ∧ Hid (Below w.heap.size w W)) (fun v9 _ => l.length - (intOf v9).toNat)
  case atStart => exact ⟨0, .slice none 0 0, rfl, Nat.zero_le _, HZ0.out _ _, HZ1.out _ _, by simpa [Hid] using Rws.nil _ _ _, below2 w _ _⟩
  case round =>
    obtain ⟨i, v, rfl, hi, HR0, HR1, HW, HB⟩ := hrel
    by_cases hlt : i < l.length
    · have hlz : (i : Int) < (l.length : Int) := by omega
      obtain ⟨b, o, rfl, hc⟩ := HA.out (fun e => by rw [e] at hlt; simp at hlt)
      have hci : wr.cell? ⟨b, o + i, none⟩ = some (.string ⟨l[i].toArray⟩) := by rw [HB.out.cell (block_lt_of_cell (hc i hlt))]; exact hc i hlt
      have HNx := hid (take_bulk hlt)
      have HTi := hid (HT.out l[i] (List.getElem_mem hlt))
      have Hlen : Hid (((l.take i).map bulkR).length ≤ 1000000000000) := by unfold Hid; simp; omega
      generalize l[i] = t at *
      clear hc
      obtain ⟨⟨c0, c1, c2, c3⟩, f0, f1, f2, f3⟩ := row_facts HR1.out
      have hwlt : w.heap.size + 1 < wr.heap.size := (Array.getElem?_eq_some_iff.1 HR1.out).1
      obtain ⟨pv, cv, hv⟩ := HW.out.shape
      obtain ⟨nv, hnv⟩ : ∃ nv, nv = ((l.take i).map bulkR).length := ⟨_, rfl⟩
      rw [← hnv] at hv
      subst hv
      clear hnv
      have HWd := hid (HW.out.below (Below.refl _ wr).drew)
      go_wp2_with fail
      go_region_law (first
        | (refine step_append_run rfl _ _ 30 rfl _ _ _ _ rfl rfl HRun.out ?_)
        | (go_simp; go_at_call 130; refine (HT2.out _ _).mono ?_; rintro e w3 ⟨rfl, hb3⟩; obtain ⟨v', W4, hrun, hw4, hb4⟩ := (HWd.out.below hb3).push (r := bulkR t) (q := none) (c := 0) (by have := hb3.size; simp at this; omega) Hlen.out (bulk_rp HTi.out); obtain ⟨p4, c4, rfl⟩ := hw4.shape; have hw3 : w.heap.size + 1 < w3.heap.size := Nat.lt_of_lt_of_le hwlt hb3.size; have HRun := hid hrun; have HW4 := hid hw4; have HB3 := hid hb3; have HB4 := hid hb4; have hr3 := (hb3.block (w.heap.size + 1) (by simpa using hwlt)).trans HR1.out; have hr4 := (hb4.block (w.heap.size + 1) (by omega)).trans hr3; have HR4 := hid hr4; obtain ⟨⟨c0, c1, c2, c3⟩, f0, f1, f2, f3⟩ := row_facts hr3; obtain ⟨⟨d0, d1, d2, d3⟩, g0, g1, g2, g3⟩ := row_facts hr4; clear hrun hw4 hb3 hb4 hr3 hr4))
      all_goals go_wp2_with fail
      all_goals
        refine ⟨⟨i + 1, .slice p4 ((l.take i).map bulkR ++ [bulkR t]).length c4, by go_num, by omega, ?_, ?_, ?_, ?_⟩, by simp [intOf]; omega⟩
        · show (W4.setCell _ _).heap[w.heap.size]? = _
          rw [heap_setCell_other _ _ _ _ (by simp)]
          exact (HB4.out.block w.heap.size (by omega)).trans ((HB3.out.block w.heap.size (by simp; omega)).trans HR0.out)
        · have hln : ((l.take i).map bulkR ++ [bulkR t]).length = i + 1 := by simp; omega
          rw [hln]
          exact heap_setCell_same W4 (w.heap.size + 1) 3 _ _ _ HR4.out
        · rw [HNx.out]
          exact HW4.out.keep (fun b hb _ => heap_setCell_other _ _ _ _ (by simp; omega))
        · exact (((HB.out.drew.trans (HB3.out.mono HB.out.size)).trans (HB4.out.mono (by omega))).setCell (by simp) _)
    · obtain ⟨pv, cv, rfl⟩ := HW.out.shape
      have et : l.take i = l := List.take_of_length_le (by omega)
      rw [et] at HW HR1
      rw [List.length_map] at HW HR1
      go_wp2_with (first | (refine wpList_load_row rfl 32 _ rfl (w.heap.size + 1) rfl 32 _ (0, 0) _ HR1.out Tryz.underlying32 rfl (infoRep _ _ _ _) ?_) | (refine wpList_store_row rfl 32 _ _ rfl w.heap.size #[.int .i64 6, .int .i64 0, .string ⟨#[]⟩, .slice pv l.length cv] rfl rfl 32 _ HR0.out (infoRep _ _ _ _) rfl (oneR _ _ _ _ _ _) ?_))
      refine bodyPost_ret (v := .agg #[.int .i64 6, .int .i64 0, .string ⟨#[]⟩, .slice pv l.length cv]) ?_ rfl ?_
      · exact ret_rep1 rfl rfl (setRow_heap wr _ _ _ _ _ HR0.out)
      · refine ⟨pv, cv, rfl, ⟨pv, cv, by simp [listR, Rep.kind, Rep.int, Rep.text, Rep.list], ⟨by simp [listR, Rep.kind], by simp [listR, Rep.kind], by simp [listR, Rep.int], by simp [listR, Rep.int], by simp [listR, Rep.text], by simp [listR, Rep.list]; omega⟩, ?_⟩, below_setRow HB.out (Nat.le_refl _) _⟩
        refine HW.out.row.2.turn (fun b hb _ => ⟨by omega, setRow_other _ _ _ _ (by omega)⟩) (Nat.le_refl _)

end Go.Proofs.YtcbncdigejjcpaaGreatDoor.Re

namespace Go.Proofs.YtcbncdigejjcpaaGreatDoor.Re
open Go.RowKit

set_option maxHeartbeats 1000000 in
set_option maxRecDepth 100000 in
theorem number_any (n : Int) (w : World) :
    Calls Tryz.prog 72 #[.int .i64 n] w fun e w' => e = .returned (.agg #[.int .i64 3, .int .i64 n, .string ⟨#[]⟩, .slice none 0 0]) ∧ Below w.heap.size w w' := by
  go_enter Tryz.func72, Tryz.ntmps72
  go_wp2
  refine bodyPost_ret (v := .agg #[.int .i64 3, .int .i64 n, .string ⟨#[]⟩, .slice none 0 0]) ?_ rfl ?_
  · exact ret_rep1 rfl rfl (heap_alloc_new w _)
  · exact ⟨rfl, below_alloc w _⟩
set_option maxHeartbeats 1000000 in
set_option maxRecDepth 100000 in
theorem wrong_any (t : List UInt8) (w : World) :
    Calls Tryz.prog 27 #[.string ⟨t.toArray⟩] w fun e w' => e = .returned (.agg #[.int .i64 2, .int .i64 0, .string ⟨t.toArray⟩, .slice none 0 0]) ∧ Below w.heap.size w w' := by
  go_enter Tryz.func27, Tryz.ntmps27
  go_wp2
  refine bodyPost_ret (v := .agg #[.int .i64 2, .int .i64 0, .string ⟨t.toArray⟩, .slice none 0 0]) ?_ rfl ?_
  · exact ret_rep1 rfl rfl (heap_alloc_new w _)
  · exact ⟨rfl, below_alloc w _⟩
end Go.Proofs.YtcbncdigejjcpaaGreatDoor.Re

namespace Go.Proofs.YtcbncdigejjcpaaGreatDoor.Dk
open Go.RowKit

/-- a place, counted from the front -/
def plc (n m : Int) : Int := if n < 0 then n + m else n
/-- the first place, and the last one -/
def fstP (f m : Int) : Int := if plc f m < 0 then 0 else plc f m
def lstP (t m : Int) : Int := if m - 1 < plc t m then m - 1 else plc t m
def clA (f t m : Int) : Int := if m < 1 then 0 else if lstP t m < fstP f m then 0 else fstP f m
def clB (f t m : Int) : Int := if m < 1 then 0 else if lstP t m < fstP f m then 0 else lstP t m + 1
set_option maxHeartbeats 1000000 in
set_option maxRecDepth 100000 in
/-- place -/
theorem place_any (n m : Int) (w : World) (n0 : -9223372036854775808 ≤ n) (n1 : n ≤ 9223372036854775807) (m0 : 1 ≤ m) (m1 : m ≤ 9223372036854775807) :
    Calls Tryz.prog 212 #[.int .i64 n, .int .i64 m] w fun e w' => e = .returned (.int .i64 (plc n m)) ∧ w' = w := by
  by_cases h : n < 0
  · rw [show plc n m = n + m from if_pos h]
    go_enter Tryz.func212, Tryz.ntmps212
    go_wp2
    go_ret
    exact ⟨rfl, rfl⟩
  · rw [show plc n m = n from if_neg h]
    go_enter Tryz.func212, Tryz.ntmps212
    go_wp2
    go_ret
    exact ⟨rfl, rfl⟩
theorem ret_two {a b a' b' : Int} (h1 : a = a') (h2 : b = b') : Ending.returned (.tuple #[.int .i64 a, .int .i64 b]) = .returned (.tuple #[.int .i64 a', .int .i64 b']) := by rw [h1, h2]
set_option maxHeartbeats 1000000 in
set_option maxRecDepth 100000 in
/-- Clamp -/
theorem clamp_any (f t m : Int) (w : World) (f0 : -9223372036854775808 ≤ f) (f1 : f ≤ 9223372036854775807) (t0 : -9223372036854775808 ≤ t) (t1 : t ≤ 9223372036854775807) (m0 : -9223372036854775808 ≤ m) (m1 : m ≤ 9223372036854775807) :
    Calls Tryz.prog 167 #[.int .i64 f, .int .i64 t, .int .i64 m] w fun e w' => e = .returned (.tuple #[.int .i64 (clA f t m), .int .i64 (clB f t m)]) ∧ w' = w := by
  by_cases hm : m < 1
  · rw [show clA f t m = 0 from if_pos hm, show clB f t m = 0 from if_pos hm]
    go_enter Tryz.func167, Tryz.ntmps167
    go_wp2
    go_ret2
    exact ⟨rfl, rfl⟩
  · have e1 : clA f t m = if lstP t m < fstP f m then 0 else fstP f m := if_neg hm
    have e2 : clB f t m = if lstP t m < fstP f m then 0 else lstP t m + 1 := if_neg hm
    rw [e1, e2]
    have HF := hid (fun w => place_any f m w f0 f1 (by omega) m1)
    have HT := hid (fun w => place_any t m w t0 t1 (by omega) m1)
    have hf : fstP f m = if plc f m < 0 then 0 else plc f m := rfl
    have ht : lstP t m = if m - 1 < plc t m then m - 1 else plc t m := rfl
    have pf1 : plc f m ≤ 9223372036854775807 := by unfold plc; split <;> omega
    have pf0 : -9223372036854775808 ≤ plc f m := by unfold plc; split <;> omega
    have pt1 : plc t m ≤ 9223372036854775807 := by unfold plc; split <;> omega
    have pt0 : -9223372036854775808 ≤ plc t m := by unfold plc; split <;> omega
    generalize plc f m = F at *
    generalize plc t m = T at *
    generalize fstP f m = F2 at *
    generalize lstP t m = T2 at *
    clear e1 e2
    by_cases hF : F < 0
    all_goals by_cases hT : m - 1 < T
    all_goals simp only [hF, hT, if_true, if_false] at hf ht
    · rw [hf, ht]; clear hf ht
      by_cases hc : m - 1 < 0
      · rw [if_pos hc, if_pos hc]
        go_enter Tryz.func167, Tryz.ntmps167
        go_wp2_with fail
        refine (HF.out _).mono ?_; rintro e w1 ⟨rfl, rfl⟩
        go_wp2_with fail
        refine (HT.out _).mono ?_; rintro e w1 ⟨rfl, rfl⟩
        go_wp2_with fail
        all_goals go_ret2
        all_goals first | exact ⟨rfl, rfl⟩ | exact ⟨ret_two (by omega) (by omega), rfl⟩
      · rw [if_neg hc, if_neg hc]
        go_enter Tryz.func167, Tryz.ntmps167
        go_wp2_with fail
        refine (HF.out _).mono ?_; rintro e w1 ⟨rfl, rfl⟩
        go_wp2_with fail
        refine (HT.out _).mono ?_; rintro e w1 ⟨rfl, rfl⟩
        go_wp2_with fail
        all_goals go_ret2
        all_goals first | exact ⟨rfl, rfl⟩ | exact ⟨ret_two (by omega) (by omega), rfl⟩
    · rw [hf, ht]; clear hf ht
      by_cases hc : T < 0
      · rw [if_pos hc, if_pos hc]
        go_enter Tryz.func167, Tryz.ntmps167
        go_wp2_with fail
        refine (HF.out _).mono ?_; rintro e w1 ⟨rfl, rfl⟩
        go_wp2_with fail
        refine (HT.out _).mono ?_; rintro e w1 ⟨rfl, rfl⟩
        go_wp2_with fail
        all_goals go_ret2
        all_goals first | exact ⟨rfl, rfl⟩ | exact ⟨ret_two (by omega) (by omega), rfl⟩
      · rw [if_neg hc, if_neg hc]
        go_enter Tryz.func167, Tryz.ntmps167
        go_wp2_with fail
        refine (HF.out _).mono ?_; rintro e w1 ⟨rfl, rfl⟩
        go_wp2_with fail
        refine (HT.out _).mono ?_; rintro e w1 ⟨rfl, rfl⟩
        go_wp2_with fail
        all_goals go_ret2
        all_goals first | exact ⟨rfl, rfl⟩ | exact ⟨ret_two (by omega) (by omega), rfl⟩
    · rw [hf, ht]; clear hf ht
      by_cases hc : m - 1 < F
      · rw [if_pos hc, if_pos hc]
        go_enter Tryz.func167, Tryz.ntmps167
        go_wp2_with fail
        refine (HF.out _).mono ?_; rintro e w1 ⟨rfl, rfl⟩
        go_wp2_with fail
        refine (HT.out _).mono ?_; rintro e w1 ⟨rfl, rfl⟩
        go_wp2_with fail
        all_goals go_ret2
        all_goals first | exact ⟨rfl, rfl⟩ | exact ⟨ret_two (by omega) (by omega), rfl⟩
      · rw [if_neg hc, if_neg hc]
        go_enter Tryz.func167, Tryz.ntmps167
        go_wp2_with fail
        refine (HF.out _).mono ?_; rintro e w1 ⟨rfl, rfl⟩
        go_wp2_with fail
        refine (HT.out _).mono ?_; rintro e w1 ⟨rfl, rfl⟩
        go_wp2_with fail
        all_goals go_ret2
        all_goals first | exact ⟨rfl, rfl⟩ | exact ⟨ret_two (by omega) (by omega), rfl⟩
    · rw [hf, ht]; clear hf ht
      by_cases hc : T < F
      · rw [if_pos hc, if_pos hc]
        go_enter Tryz.func167, Tryz.ntmps167
        go_wp2_with fail
        refine (HF.out _).mono ?_; rintro e w1 ⟨rfl, rfl⟩
        go_wp2_with fail
        refine (HT.out _).mono ?_; rintro e w1 ⟨rfl, rfl⟩
        go_wp2_with fail
        all_goals go_ret2
        all_goals first | exact ⟨rfl, rfl⟩ | exact ⟨ret_two (by omega) (by omega), rfl⟩
      · rw [if_neg hc, if_neg hc]
        go_enter Tryz.func167, Tryz.ntmps167
        go_wp2_with fail
        refine (HF.out _).mono ?_; rintro e w1 ⟨rfl, rfl⟩
        go_wp2_with fail
        refine (HT.out _).mono ?_; rintro e w1 ⟨rfl, rfl⟩
        go_wp2_with fail
        all_goals go_ret2
        all_goals first | exact ⟨rfl, rfl⟩ | exact ⟨ret_two (by omega) (by omega), rfl⟩

end Go.Proofs.YtcbncdigejjcpaaGreatDoor.Dk

namespace Go.Proofs.YtcbncdigejjcpaaGreatDoor.Dk

/-- the calls, on a list -/
def pushL (l : Row) (front : Bool) (s : List UInt8) : Row := if 256 ≤ l.length then l else if front then s :: l else l ++ [s]
def pushB (l : Row) : Bool := decide (l.length < 256)
def popL (l : Row) (front : Bool) : Row := if front then l.tail else l.dropLast
def popS (l : Row) (front : Bool) : List UInt8 := if front then l.headD [] else l.getLastD []
def popB (l : Row) : Bool := !l.isEmpty
def rangeL (l : Row) (f t : Int) : Row := (l.drop (clA f t l.length).toNat).take ((clB f t l.length).toNat - (clA f t l.length).toNat)
theorem range_bounds (l : Row) (f t : Int) : (clA f t l.length).toNat ≤ (clB f t l.length).toNat ∧ (clB f t l.length).toNat ≤ l.length ∧ 0 ≤ clA f t l.length ∧ 0 ≤ clB f t l.length := by
  have hf : 0 ≤ fstP f l.length := by unfold fstP; split <;> omega
  have ht : lstP t l.length ≤ (l.length : Int) - 1 := by unfold lstP; split <;> omega
  by_cases hm : (l.length : Int) < 1
  · rw [show clA f t l.length = 0 from if_pos hm, show clB f t l.length = 0 from if_pos hm]
    omega
  · rw [show clA f t l.length = if lstP t l.length < fstP f l.length then 0 else fstP f l.length from if_neg hm, show clB f t l.length = if lstP t l.length < fstP f l.length then 0 else lstP t l.length + 1 from if_neg hm]
    by_cases hc : lstP t l.length < fstP f l.length
    · rw [if_pos hc, if_pos hc]; omega
    · rw [if_neg hc, if_neg hc]; omega
theorem rangeL_len (l : Row) (f t : Int) : (rangeL l f t).length = (clB f t l.length).toNat - (clA f t l.length).toNat := by
  have := range_bounds l f t
  unfold rangeL
  simp
  omega
theorem rangeL_le (l : Row) (f t : Int) : (rangeL l f t).length ≤ l.length := by
  rw [rangeL_len]; have := range_bounds l f t; omega
/-- all of a row -/
theorem rangeL_all (l : Row) : rangeL l 0 (-1) = l := by
  unfold rangeL
  by_cases h : (l.length : Int) < 1
  · have : l = [] := List.length_eq_zero_iff.1 (by omega)
    subst this
    simp
  · have e1 : fstP 0 l.length = 0 := by simp [fstP, plc]
    have e2 : lstP (-1) l.length = l.length - 1 := by
      have : plc (-1) l.length = l.length - 1 := by unfold plc; rw [if_pos (by decide)]; omega
      unfold lstP; rw [this]; simp
    have ea : clA 0 (-1) l.length = 0 := by unfold clA; rw [e1, e2, if_neg h, if_neg (by omega)]
    have eb : clB 0 (-1) l.length = l.length := by unfold clB; rw [e1, e2, if_neg h, if_neg (by omega)]; omega
    rw [ea, eb]
    simp
end Go.Proofs.YtcbncdigejjcpaaGreatDoor.Dk

namespace Go.Proofs.YtcbncdigejjcpaaGreatDoor.Dk

/-- from the cell f on, gone round, lie the texts of L; every cell holds a text -/
structure Ring (cs : Array Value) (f : Nat) (L : Row) : Prop where
  beg : f < 256
  len : L.length ≤ 256
  at_ : ∀ i (h : i < L.length), cs[(f + i) % 256]? = some (txt L[i])
  all : ∀ j, j < 256 → ∃ t, cs[j]? = some (txt t)
theorem Ring.size {cs : Array Value} {f : Nat} {L : Row} (h : Ring cs f L) : 256 ≤ cs.size := by
  obtain ⟨t, ht⟩ := h.all 255 (by decide)
  have := (Array.getElem?_eq_some_iff.1 ht).1
  omega
/-- the fields behind the row -/
theorem Ring.aside {cs : Array Value} {f : Nat} {L : Row} (h : Ring cs f L) (j : Nat) (hj : 256 ≤ j) (v : Value) : Ring (cs.setIfInBounds j v) f L :=
  ⟨h.beg, h.len, fun i hi => by rw [Array.getElem?_setIfInBounds_ne (by omega)]; exact h.at_ i hi, fun k hk => by rw [Array.getElem?_setIfInBounds_ne (by omega)]; exact h.all k hk⟩
theorem set_all {cs : Array Value} (h : ∀ j, j < 256 → ∃ t, cs[j]? = some (txt t)) (k : Nat) (s : List UInt8) : ∀ j, j < 256 → ∃ t, (cs.setIfInBounds k (txt s))[j]? = some (txt t) := fun j hj => by
  obtain ⟨t, ht⟩ := h j hj
  by_cases e : k = j
  · subst e
    exact ⟨s, by rw [Array.getElem?_setIfInBounds_self_of_lt (Array.getElem?_eq_some_iff.1 ht).1]⟩
  · exact ⟨t, by rw [Array.getElem?_setIfInBounds_ne e]; exact ht⟩
theorem set_get {cs : Array Value} {k : Nat} (h : k < cs.size) (v : Value) : (cs.setIfInBounds k v)[k]? = some v := Array.getElem?_setIfInBounds_self_of_lt h
/-- one more behind -/
theorem Ring.back {cs : Array Value} {f : Nat} {L : Row} (h : Ring cs f L) (hl : L.length < 256) (s : List UInt8) : Ring (cs.setIfInBounds ((f + L.length) % 256) (txt s)) f (L ++ [s]) :=
  ⟨h.beg, by simp; omega, fun i hi => by
    have hsz := h.size
    have hf := h.beg
    simp only [List.length_append, List.length_singleton] at hi
    by_cases e : i < L.length
    · rw [Array.getElem?_setIfInBounds_ne (by omega), h.at_ i e, List.getElem_append_left e]
    · obtain rfl : i = L.length := by omega
      rw [set_get (by omega), List.getElem_append_right (by omega)]
      simp, set_all h.all _ s⟩
/-- one more ahead -/
theorem Ring.front {cs : Array Value} {f : Nat} {L : Row} (h : Ring cs f L) (hl : L.length < 256) (s : List UInt8) : Ring (cs.setIfInBounds ((f + 255) % 256) (txt s)) ((f + 255) % 256) (s :: L) :=
  ⟨by omega, by simp; omega, fun i hi => by
    have hsz := h.size
    have hf := h.beg
    simp only [List.length_cons] at hi
    cases i with
    | zero =>
      rw [show ((f + 255) % 256 + 0) % 256 = (f + 255) % 256 by omega, set_get (by omega)]
      rfl
    | succ i =>
      rw [Array.getElem?_setIfInBounds_ne (by omega), show ((f + 255) % 256 + (i + 1)) % 256 = (f + i) % 256 by omega, h.at_ i (by omega)]
      rfl, set_all h.all _ s⟩
/-- nothing yet -/
theorem Ring.void {cs : Array Value} (h : ∀ j, j < 256 → ∃ t, cs[j]? = some (txt t)) : Ring cs 0 [] := ⟨by decide, by simp, fun i hi => by simp at hi, h⟩

end Go.Proofs.YtcbncdigejjcpaaGreatDoor.Dk

namespace Go.Proofs.YtcbncdigejjcpaaGreatDoor.Dk
open Go.RowKit

/-- a pointer to a block -/
abbrev ptr (b : Nat) : Value := .pointer (some ⟨b, 0, none⟩)
/-- all blocks but one -/
abbrev But (b : Nat) : Nat → Prop := fun k => k ≠ b
/-- the blocks that came -/
abbrev New (w : World) : Nat → Prop := fun k => w.heap.size ≤ k
theorem keep_setCell {P : Nat → Prop} {w w' : World} (h : Keep P w w') (g i : Nat) (u : Value) (hg : ¬ P g) : Keep P w (w'.setCell ⟨g, i, none⟩ u) :=
  h.trans ⟨rfl, rfl, rfl, by simp, fun k _ hk => heap_setCell_other w' ⟨g, i, none⟩ k u (fun e => hg (by rw [show g = k from e.symm]; exact hk))⟩

end Go.Proofs.YtcbncdigejjcpaaGreatDoor.Dk

namespace Go.Proofs.YtcbncdigejjcpaaGreatDoor.Dk
open Go.RowKit

/-- a deque in block b -/
def Dq (w : World) (b : Nat) (L : Row) : Prop := ∃ (cs : Array Value) (f : Nat), w.heap[b]? = some (.cells cs 170 (0, 0)) ∧ cs.size = 258 ∧ cs[256]? = some (.int .i64 f) ∧ cs[257]? = some (.int .i64 L.length) ∧ Ring cs f L
def zeros : Array Value := Array.replicate 256 (.string ⟨#[]⟩) ++ #[.int .i64 0, .int .i64 0]
theorem zero0 : ∀ w, (zeroValue 170).run Tryz.prog w = .ok (.agg zeros) w := (zero_of_info (P := Tryz.prog) (n := 258) (by kernel_rfl)).1
theorem zeros_all : ∀ j, j < 256 → ∃ t, zeros[j]? = some (txt t) := fun j hj => ⟨[], by simp [zeros, Array.getElem?_append, hj]⟩
theorem zeros_ring : Ring zeros 0 [] := Ring.void zeros_all
theorem zeros_dq (w : World) : Dq (w.alloc (.cells zeros 170)) w.heap.size [] := ⟨zeros, 0, heap_alloc_new w _, by simp [zeros], by simp [zeros], by simp [zeros], zeros_ring⟩
set_option maxHeartbeats 1000000 in
set_option maxRecDepth 100000 in
/-- New -/
theorem new_any (w : World) : Calls Tryz.prog 209 #[] w fun e w' => e = .returned (ptr w.heap.size) ∧ w' = w.alloc (.cells zeros 170) := by
  have hb := zero0
  generalize zeros = Z at *
  go_enter Tryz.func209, Tryz.ntmps209
  go_wp2
  go_ret
  exact ⟨rfl, rfl⟩
set_option maxHeartbeats 1000000 in
set_option maxRecDepth 100000 in
/-- Len -/
theorem len_any (b : Nat) (L : Row) (w : World) (h : Dq w b L) : Calls Tryz.prog 88 #[ptr b] w fun e w' => e = .returned (.int .i64 L.length) ∧ Hid (Dq w' b L ∧ Keep (But b) w w') := by
  have H := hid h
  obtain ⟨cs, f, hc, _, _, h2, _⟩ := h
  have c2 : w.cell? ⟨b, 257, none⟩ = some (.int .i64 L.length) := by rw [cell_of_row w b 257 _ _ _ hc]; exact h2
  clear hc h2
  go_enter Tryz.func88, Tryz.ntmps88
  go_wp2
  go_ret
  exact ⟨rfl, H.out, Keep.refl _ _⟩
theorem dq_cells {w : World} {b : Nat} {cs : Array Value} (hc : w.heap[b]? = some (.cells cs 170 (0, 0))) (j : Nat) : w.cell? ⟨b, j, none⟩ = cs[j]? := cell_of_row w b j _ _ _ hc
set_option maxHeartbeats 1000000 in
set_option maxRecDepth 100000 in
/-- where -/
theorem where_any (b f k : Nat) (i : Int) (w : World) (c1 : w.cell? ⟨b, 256, none⟩ = some (.int .i64 f)) (hf : f < 256) (h0 : -1 ≤ i) (h1 : i ≤ 256) (hm : (f : Int) + i + 256 = k ∨ (f : Int) + i = k ∨ (f : Int) + i = k + 256) (hk : k < 256) :
    Calls Tryz.prog 162 #[ptr b, .int .i64 i] w fun e w' => e = .returned (.int .i64 k) ∧ w' = w := by
  have hm' : ((f : Int) + i + 256).tmod 256 = (k : Int) := by
    rw [Int.tmod_eq_emod_of_nonneg (by omega)]; omega
  have hfz : (f : Int) < 256 := by omega
  clear hm
  go_enter Tryz.func162, Tryz.ntmps162
  go_wp2
  go_ret
  exact ⟨rfl, rfl⟩

end Go.Proofs.YtcbncdigejjcpaaGreatDoor.Dk
