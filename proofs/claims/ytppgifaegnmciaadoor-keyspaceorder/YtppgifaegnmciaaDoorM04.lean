/- LoadP, RdrP, VBase. -/
import Derived.Test.YtppgifaegnmciaaDoorM01
import Derived.WalkLawsBesides
import Derived.OneCell
import Derived.Lib.AppendStr
import Derived.Lib.SlBytesConst
import Derived.Lib.ConvBytes
import Derived.Laws.BitsAllLaws
import Derived.Deep.RegionLaw
namespace Go.Proofs.YtppgifaegnmciaaDoor

/-- the number of four bytes -/
def sgn (a b c d : UInt8) : Int := if num2 a b * 65536 + num2 c d ≥ 2147483648 then ((num2 a b * 65536 + num2 c d : Nat) : Int) - 4294967296 else ((num2 a b * 65536 + num2 c d : Nat) : Int)
theorem sgn_part {n : Int} (h : -1048576 ≤ n ∧ n ≤ 1048576) : ∃ a b c d, part n = [a, b, c, d] ∧ sgn a b c d = n := by
  refine ⟨_, _, _, _, rfl, ?_⟩
  unfold sgn
  rw [two_num (by omega), two_num (by omega)]
  split <;> omega
/-- the texts that are read, if they are there -/
def lst (o : Option (List Nm × Nm)) : List Nm := match o with
  | some p => p.1
  | none => []
/-- the value that bytes (but the sum) may say -/
def readV (s : Nm) : Vl := match s with
  | a :: b :: c :: r =>
    if a = 1 then ⟨1, (lst (rdT (b :: c :: r) 1)).headD [], [], [], 0, 0⟩
    else if a = 2 then ⟨2, [], if 256 < num2 b c then [] else unflat (lst (rdT r (2 * num2 b c))), [], 0, 0⟩
    else if a = 3 ∨ a = 4 then ⟨a.toNat, [], [], if 256 < num2 b c then [] else lst (rdT r (num2 b c)), 0, 0⟩
    else if a = 5 then (match r with
      | [d, e, f, g, h, i] => ⟨5, [], [], [], sgn b c d e, sgn f g h i⟩
      | _ => ⟨5, [], [], [], 0, 0⟩)
    else ⟨a.toNat, [], [], [], 0, 0⟩
  | _ => zeroV
theorem read_body {m : Vl} (h : RtV m) : readV (bodyV m) = m := by
  obtain ⟨k, t, p, i, x, y⟩ := m
  obtain ⟨q1, q2, q3, q5, kk, f1, f2, f3, f4, f5⟩ := h
  dsimp only at *
  unfold bodyV inner
  dsimp only
  by_cases c1 : k = 1
  · subst c1
    rw [if_pos rfl]
    have ht := f1 rfl
    have e := rdT_tx [t] [] (by simp; omega)
    rw [show ([t] : List Nm).flatMap tx ++ [] = tx t by simp] at e
    obtain ⟨rfl, rfl⟩ := q5 (by omega)
    rw [q2 (by omega), q3 (by omega) (by omega)]
    have e2 : tx t = UInt8.ofNat (t.length / 256) :: UInt8.ofNat (t.length % 256) :: t := rfl
    rw [e2] at e ⊢
    show (⟨1, (lst (rdT _ 1)).headD [], [], [], 0, 0⟩ : Vl) = _
    rw [show ([t] : List Nm).length = 1 from rfl] at e
    rw [e]
    rfl
  · rw [if_neg c1]
    by_cases c2 : k = 2
    · subst c2
      rw [if_pos rfl]
      obtain ⟨⟨a1, a2, a3⟩, _, ⟨a4, _, _⟩⟩ := f2 rfl
      simp only [List.length_map] at a2 a3
      have e := rdT_tx (flat p) [] (fun x hx => by have := flat_mem a1 a4 x hx; omega)
      rw [List.append_nil, flat_len] at e
      obtain ⟨rfl, rfl⟩ := q5 (by omega)
      rw [q1 (by omega), q3 (by omega) (by omega)]
      show (⟨2, [], if 256 < num2 (UInt8.ofNat (p.length / 256)) (UInt8.ofNat (p.length % 256)) then [] else unflat (lst (rdT ((flat p).flatMap tx) (2 * num2 (UInt8.ofNat (p.length / 256)) (UInt8.ofNat (p.length % 256))))), [], 0, 0⟩ : Vl) = _
      rw [two_num (by omega), if_neg (by omega), e]
      show (⟨2, [], unflat (flat p), [], 0, 0⟩ : Vl) = _
      rw [unflat_flat]
    · rw [if_neg c2]
      by_cases c5 : k = 5
      · subst c5
        rw [if_pos rfl]
        obtain ⟨a1, a2, a3, a4⟩ := f5 rfl
        obtain ⟨b, c, d, e, h1, h2⟩ := sgn_part ⟨a1, a2⟩
        obtain ⟨b', c', d', e', h3, h4⟩ := sgn_part ⟨a3, a4⟩
        rw [h1, h3, q1 (by omega), q2 (by omega), q3 (by omega) (by omega)]
        show (⟨5, [], [], [], sgn b c d e, sgn b' c' d' e'⟩ : Vl) = _
        rw [h2, h4]
      · rw [if_neg c5]
        obtain ⟨a1, a2, a3⟩ : Fits i := by
          rcases (show k = 3 ∨ k = 4 by omega) with c | c
          · exact f3 c
          · exact (f4 c).1
        have e := rdT_tx i [] (fun x hx => by have := a1 x hx; omega)
        rw [List.append_nil] at e
        obtain ⟨rfl, rfl⟩ := q5 c5
        rw [q1 c1, q2 c2]
        have key : ∀ z : UInt8, z = 3 ∨ z = 4 → readV (z :: (two i.length ++ i.flatMap tx)) = ⟨z.toNat, [], [], i, 0, 0⟩ := fun z hz => by
          have z1 : z ≠ 1 := by rcases hz with rfl | rfl <;> decide
          have z2 : z ≠ 2 := by rcases hz with rfl | rfl <;> decide
          show (if z = 1 then _ else if z = 2 then _ else if z = 3 ∨ z = 4 then (⟨z.toNat, [], [], if 256 < num2 (UInt8.ofNat (i.length / 256)) (UInt8.ofNat (i.length % 256)) then [] else lst (rdT (i.flatMap tx) (num2 (UInt8.ofNat (i.length / 256)) (UInt8.ofNat (i.length % 256)))), 0, 0⟩ : Vl) else _) = _
          rw [if_neg z1, if_neg z2, if_pos hz, two_num (by omega), if_neg (by omega), e]
          rfl
        rcases (show k = 3 ∨ k = 4 by omega) with rfl | rfl
        · exact key 3 (.inl rfl)
        · exact key 4 (.inr rfl)
theorem inner_len (m : Vl) : 2 ≤ (inner m).length := by
  unfold inner
  split
  · simp [tx, two]
  · split
    · simp [two]
    · split
      · simp [part, two]
      · simp [two]
theorem body_len (m : Vl) : 3 ≤ (bodyV m).length := by have := inner_len m; simp [bodyV]; omega
theorem dump_len (m : Vl) : (dumpV m).length = (bodyV m).length + 2 := by simp [dumpV, two_len]
theorem dump_take (m : Vl) : (dumpV m).take ((dumpV m).length - 2) = bodyV m := by
  rw [dump_len, Nat.add_sub_cancel]; unfold dumpV; rw [List.take_left]
theorem dump_drop (m : Vl) : (dumpV m).drop ((dumpV m).length - 2) = two (sumN (bodyV m)) := by
  rw [dump_len, Nat.add_sub_cancel]; unfold dumpV; rw [List.drop_left]
/-- is the sum right? -/
def sumOk (s : Nm) : Prop := s.drop (s.length - 2) = two (sumN (s.take (s.length - 2)))
theorem dump_ok (m : Vl) : sumOk (dumpV m) := by unfold sumOk; rw [dump_take, dump_drop]
open Classical in
/-- what Load tells -/
noncomputable def loadV (s : Nm) : Vl × Int :=
  if s.length < 3 then (zeroV, 100) else if ¬ sumOk s then (zeroV, 101) else if h : ∃ m, RtV m ∧ dumpV m = s then (Classical.choose h, 0) else (zeroV, 100)
theorem load_short {s : Nm} (h : s.length < 3) : loadV s = (zeroV, 100) := by unfold loadV; rw [if_pos h]
theorem load_sum {s : Nm} (h : ¬ s.length < 3) (k : ¬ sumOk s) : loadV s = (zeroV, 101) := by unfold loadV; rw [if_neg h, if_pos k]
theorem load_dump {m : Vl} (h : RtV m) : loadV (dumpV m) = (m, 0) := by
  have hx : ∃ m', RtV m' ∧ dumpV m' = dumpV m := ⟨m, h, rfl⟩
  unfold loadV
  rw [if_neg (by rw [dump_len]; have := body_len m; omega), if_neg (fun k => k (dump_ok m)), dif_pos hx]
  obtain ⟨h1, h2⟩ := Classical.choose_spec hx
  rw [dump_inj h1 h h2]
theorem load_none {s : Nm} (h : ¬ s.length < 3) (k : sumOk s) (hn : ¬ ∃ m, RtV m ∧ dumpV m = s) : loadV s = (zeroV, 100) := by
  unfold loadV
  rw [if_neg h, if_neg (fun q => q k), dif_neg hn]
/-- what the bytes may say is written again -/
theorem load_read {s : Nm} (hr : RtV (readV (s.take (s.length - 2)))) (hd : dumpV (readV (s.take (s.length - 2))) = s) : loadV s = (readV (s.take (s.length - 2)), 0) := by
  have := load_dump hr
  rwa [hd] at this
theorem load_other {s : Nm} (h : ¬ s.length < 3) (k : sumOk s) (hr : ¬ (RtV (readV (s.take (s.length - 2))) ∧ dumpV (readV (s.take (s.length - 2))) = s)) : loadV s = (zeroV, 100) := by
  refine load_none h k fun ⟨m, hm, e⟩ => hr ?_
  subst e
  rw [dump_take, read_body hm]
  exact ⟨hm, rfl⟩
/-- a text with its sum behind it has the sum 0 -/
def hiB (s : BitVec 16) : BitVec 8 := (s >>> 8).setWidth 8
def loB (s : BitVec 16) : BitVec 8 := s.setWidth 8
theorem hiB_xor (s t : BitVec 16) : hiB (s ^^^ t) = hiB s ^^^ hiB t := by
  apply BitVec.eq_of_getLsbD_eq
  intro i hi
  simp [hiB, hi]
theorem loB_xor (s t : BitVec 16) : loB (s ^^^ t) = loB s ^^^ loB t := by
  apply BitVec.eq_of_getLsbD_eq
  intro i hi
  simp [loB, hi]
theorem ends_zero (s : BitVec 16) : Crc.step (Crc.step s (hiB s)) (loB s) = 0#16 := by
  refine Crc.lin_ext (fun s => Crc.step (Crc.step s (hiB s)) (loB s)) (fun _ => 0#16) (fun a b => ?_) (fun a b => by simp) (by decide +kernel) (by decide +kernel) s
  show Crc.step (Crc.step (a ^^^ b) (hiB (a ^^^ b))) (loB (a ^^^ b)) = _
  rw [hiB_xor, loB_xor, Crc.step_xor, Crc.step_xor]
theorem step_two (c : BitVec 16) : Crc.more c [(UInt8.ofNat (c.toNat / 256)).toBitVec, (UInt8.ofNat (c.toNat % 256)).toBitVec] = 0#16 := by
  have h := c.isLt
  have e1 : (UInt8.ofNat (c.toNat / 256)).toBitVec = hiB c := by
    apply BitVec.eq_of_toNat_eq
    show (UInt8.ofNat (c.toNat / 256)).toNat = _
    rw [UInt8.toNat_ofNat']
    simp [hiB, Nat.shiftRight_eq_div_pow]
  have e2 : (UInt8.ofNat (c.toNat % 256)).toBitVec = loB c := by
    apply BitVec.eq_of_toNat_eq
    show (UInt8.ofNat (c.toNat % 256)).toNat = _
    rw [UInt8.toNat_ofNat']
    simp [loB]
  rw [e1, e2]
  exact ends_zero c
theorem sum_two (l : Nm) : sumN (l ++ two (sumN l)) = 0 := by
  unfold sumN two
  rw [List.map_append, Crc.more_append]
  have := step_two (Crc.more 0#16 (l.map UInt8.toBitVec))
  rw [show ([UInt8.ofNat ((Crc.more 0#16 (l.map UInt8.toBitVec)).toNat / 256), UInt8.ofNat ((Crc.more 0#16 (l.map UInt8.toBitVec)).toNat % 256)].map UInt8.toBitVec) = [(UInt8.ofNat ((Crc.more 0#16 (l.map UInt8.toBitVec)).toNat / 256)).toBitVec, (UInt8.ofNat ((Crc.more 0#16 (l.map UInt8.toBitVec)).toNat % 256)).toBitVec] from rfl, this]
  rfl
theorem ok_zero {s : Nm} (k : sumOk s) : sumN s = 0 := by
  have := sum_two (s.take (s.length - 2))
  rw [← k, List.take_append_drop] at this
  exact this
/-- bytes of another sum than 0 are refused for it -/
theorem load_turned {s : Nm} (h : 3 ≤ s.length) (k : sumN s ≠ 0) : loadV s = (zeroV, 101) := load_sum (by omega) fun q => k (ok_zero q)
theorem sum_dump (m : Vl) : sumN (dumpV m) = 0 := ok_zero (dump_ok m)

end Go.Proofs.YtppgifaegnmciaaDoor

namespace Go.Proofs.YtppgifaegnmciaaDoor

/-- the number of bytes, the highest first -/
def numN (l : Nm) : Nat := l.foldl (fun n b => n * 256 + b.toNat) 0
theorem numN_snoc (l : Nm) (b : UInt8) : numN (l ++ [b]) = numN l * 256 + b.toNat := by simp [numN, List.foldl_append]
theorem numN_aux : ∀ (l : Nm) (n k : Nat), n < 256 ^ k → l.foldl (fun n b => n * 256 + b.toNat) n < 256 ^ (k + l.length)
  | [], n, k, h => h
  | b :: l, n, k, h => by
    have hb := b.toNat_lt
    have := numN_aux l (n * 256 + b.toNat) (k + 1) (by rw [Nat.pow_succ]; omega)
    rw [List.foldl_cons, List.length_cons, show k + (l.length + 1) = k + 1 + l.length by omega]
    exact this
theorem numN_lt (l : Nm) : numN l < 256 ^ l.length := by
  have := numN_aux l 0 0 (by decide)
  rwa [Nat.zero_add] at this
theorem numN_le (l : Nm) (k : Nat) (h : l.length ≤ k) : numN l < 256 ^ k := Nat.lt_of_lt_of_le (numN_lt l) (Nat.pow_le_pow_right (by decide) h)
theorem numN_1 (r : Nm) : numN (r.take 1) < 256 := numN_le _ 1 (by simp; omega)
theorem numN_2 (r : Nm) : numN (r.take 2) < 65536 := numN_le _ 2 (by simp; omega)
theorem numN_4 (r : Nm) : numN (r.take 4) < 4294967296 := numN_le _ 4 (by simp; omega)
theorem numN_two {n : Nat} (h : n < 65536) : numN (two n) = n := by
  show (0 * 256 + (UInt8.ofNat (n / 256)).toNat) * 256 + (UInt8.ofNat (n % 256)).toNat = n
  rw [UInt8.toNat_ofNat', UInt8.toNat_ofNat']
  omega
theorem numN_four (a b c d : UInt8) : numN [a, b, c, d] = num2 a b * 65536 + num2 c d := by
  show (((0 * 256 + a.toNat) * 256 + b.toNat) * 256 + c.toNat) * 256 + d.toNat = _
  unfold num2
  omega
theorem numN_pair (a b : UInt8) : numN [a, b] = num2 a b := by
  show (0 * 256 + a.toNat) * 256 + b.toNat = _
  unfold num2
  omega
/-- a text, a pair, so many things -/
def tkT (r : Nm) : Nm × Nm := ((r.drop 2).take (numN (r.take 2)), (r.drop 2).drop (numN (r.take 2)))
def tkP (r : Nm) : (Nm × Nm) × Nm := (((tkT r).1, (tkT (tkT r).2).1), (tkT (tkT r).2).2)
def rows {α : Type} (f : Nm → α × Nm) : Nat → Nm → List α × Nm
  | 0, r => ([], r)
  | n + 1, r => ((rows f n r).1 ++ [(f (rows f n r).2).1], (f (rows f n r).2).2)
theorem rows_len {α : Type} (f : Nm → α × Nm) : ∀ n r, (rows f n r).1.length = n
  | 0, r => rfl
  | n + 1, r => by show ((rows f n r).1 ++ [_]).length = _; rw [List.length_append, rows_len f n r]; rfl
theorem tkT_len (r : Nm) : (tkT r).1.length < 65536 := by
  have := numN_2 r
  show ((r.drop 2).take (numN (r.take 2))).length < 65536
  rw [List.length_take]; omega
theorem tkT_rest (r : Nm) : (tkT r).2.length ≤ r.length := by
  show ((r.drop 2).drop (numN (r.take 2))).length ≤ _
  simp
theorem rows_rest {α : Type} (f : Nm → α × Nm) (h : ∀ r, (f r).2.length ≤ r.length) : ∀ n r, (rows f n r).2.length ≤ r.length
  | 0, _ => Nat.le_refl _
  | n + 1, r => Nat.le_trans (h _) (rows_rest f h n r)
theorem tkP_rest (r : Nm) : (tkP r).2.length ≤ r.length := Nat.le_trans (tkT_rest _) (tkT_rest _)
theorem rows_mem {α : Type} (f : Nm → α × Nm) (p : α → Prop) (h : ∀ r, p (f r).1) : ∀ n r, ∀ x ∈ (rows f n r).1, p x
  | 0, r, x, hx => by cases hx
  | n + 1, r, x, hx => by
    rcases List.mem_append.1 hx with hx | hx
    · exact rows_mem f p h n r x hx
    · rw [List.mem_singleton.1 hx]; exact h _
def many (r : Nm) : Nat := min (numN (r.take 2)) 256
/-- a number of 32 bits, the highest one the sign -/
def sg (n : Nat) : Int := if 2147483648 ≤ n then (n : Int) - 4294967296 else (n : Int)
/-- the value that is read -/
def rdrV (s : Nm) : Vl :=
  if numN (s.take 1) = 1 then ⟨1, (tkT (s.drop 1)).1, [], [], 0, 0⟩
  else if numN (s.take 1) = 2 then ⟨2, [], (rows tkP (many (s.drop 1)) ((s.drop 1).drop 2)).1, [], 0, 0⟩
  else if numN (s.take 1) = 4 then ⟨4, [], [], (rows tkT (many (s.drop 1)) ((s.drop 1).drop 2)).1, 0, 0⟩
  else if numN (s.take 1) = 3 then ⟨3, [], [], (rows tkT (many (s.drop 1)) ((s.drop 1).drop 2)).1, 0, 0⟩
  else if numN (s.take 1) = 5 then ⟨5, [], [], [], sg (numN ((s.drop 1).take 4)), sg (numN (((s.drop 1).drop 4).take 4))⟩
  else ⟨numN (s.take 1), [], [], [], 0, 0⟩
theorem tkT_tx (x r : Nm) (h : x.length < 65536) : tkT (tx x ++ r) = (x, r) := by
  have e1 : (tx x ++ r).take 2 = two x.length := rfl
  have e2 : (tx x ++ r).drop 2 = x ++ r := rfl
  unfold tkT
  rw [e1, e2, numN_two h, List.take_left, List.drop_left]
theorem rows_tx (l : List Nm) (r : Nm) (h : ∀ x ∈ l, x.length < 65536) : ∀ k, k ≤ l.length → rows tkT k (l.flatMap tx ++ r) = (l.take k, (l.drop k).flatMap tx ++ r)
  | 0, _ => by simp [rows]
  | k + 1, hk => by
    have ih := rows_tx l r h k (by omega)
    have hk' : k < l.length := by omega
    show ((rows tkT k _).1 ++ [(tkT (rows tkT k _).2).1], (tkT (rows tkT k _).2).2) = _
    rw [ih]
    have e : (l.drop k).flatMap tx ++ r = tx l[k] ++ ((l.drop (k + 1)).flatMap tx ++ r) := by
      rw [List.drop_eq_getElem_cons hk', List.flatMap_cons, List.append_assoc]
    dsimp only
    rw [e, tkT_tx _ _ (h _ (List.getElem_mem hk')), List.take_succ_eq_append_getElem hk']
theorem rows_txp (l : List (Nm × Nm)) (r : Nm) (h1 : ∀ x ∈ l.map (·.1), x.length < 65536) (h2 : ∀ x ∈ l.map (·.2), x.length < 65536) : ∀ k, k ≤ l.length → rows tkP k ((flat l).flatMap tx ++ r) = (l.take k, (flat (l.drop k)).flatMap tx ++ r)
  | 0, _ => by simp [rows]
  | k + 1, hk => by
    have ih := rows_txp l r h1 h2 k (by omega)
    have hk' : k < l.length := by omega
    show ((rows tkP k _).1 ++ [(tkP (rows tkP k _).2).1], (tkP (rows tkP k _).2).2) = _
    rw [ih]
    have e : (flat (l.drop k)).flatMap tx ++ r = tx l[k].1 ++ (tx l[k].2 ++ ((flat (l.drop (k + 1))).flatMap tx ++ r)) := by
      rw [List.drop_eq_getElem_cons hk']
      show (l[k].1 :: l[k].2 :: flat (l.drop (k + 1))).flatMap tx ++ r = _
      rw [List.flatMap_cons, List.flatMap_cons, List.append_assoc, List.append_assoc]
    dsimp only
    unfold tkP
    rw [e, tkT_tx _ _ (h1 _ (List.mem_map_of_mem (List.getElem_mem hk')))]
    dsimp only
    rw [tkT_tx _ _ (h2 _ (List.mem_map_of_mem (List.getElem_mem hk'))), List.take_succ_eq_append_getElem hk']
theorem sg_part {n : Int} (h : -1048576 ≤ n ∧ n ≤ 1048576) : sg (numN (part n)) = n := by
  obtain ⟨a, b, c, d, e1, e2⟩ := sgn_part h
  rw [e1, numN_four, ← e2]
  rfl
/-- what was written is read -/
theorem rdr_body {m : Vl} (h : RtV m) : rdrV (bodyV m) = m := by
  obtain ⟨k, t, p, i, x, y⟩ := m
  obtain ⟨q1, q2, q3, q5, kk, f1, f2, f3, f4, f5⟩ := h
  dsimp only at *
  have hk : numN ((bodyV ⟨k, t, p, i, x, y⟩).take 1) = k.toNat := by
    show 0 * 256 + (UInt8.ofNat k.toNat).toNat = _
    rw [UInt8.toNat_ofNat']; omega
  have hd : (bodyV ⟨k, t, p, i, x, y⟩).drop 1 = inner ⟨k, t, p, i, x, y⟩ := rfl
  unfold rdrV
  rw [hk, hd]
  unfold inner
  dsimp only
  by_cases c1 : k = 1
  · subst c1
    rw [if_pos (by decide), if_pos rfl]
    obtain ⟨rfl, rfl⟩ := q5 (by omega)
    have := f1 rfl
    have e := tkT_tx t [] (by omega)
    rw [List.append_nil] at e
    rw [e, q2 (by omega), q3 (by omega) (by omega)]
  · rw [if_neg (by omega), if_neg c1]
    by_cases c2 : k = 2
    · subst c2
      rw [if_pos (by decide), if_pos rfl]
      obtain ⟨⟨a1, a2, a3⟩, _, ⟨a4, _, _⟩⟩ := f2 rfl
      simp only [List.length_map] at a2 a3
      have e0 : many (two p.length ++ (flat p).flatMap tx) = p.length := by
        show min (numN (two p.length)) 256 = _
        rw [numN_two (by omega)]; omega
      have e := rows_txp p [] (fun z hz => by have := a1 z hz; omega) (fun z hz => by have := a4 z hz; omega) p.length (Nat.le_refl _)
      rw [List.append_nil, List.take_length] at e
      obtain ⟨rfl, rfl⟩ := q5 (by omega)
      rw [e0, show (two p.length ++ (flat p).flatMap tx).drop 2 = (flat p).flatMap tx from rfl, e, q1 (by omega), q3 (by omega) (by omega)]
    · rw [if_neg (by omega), if_neg c2]
      by_cases c5 : k = 5
      · subst c5
        rw [if_neg (by decide), if_neg (by decide), if_pos (by decide), if_pos rfl]
        obtain ⟨a1, a2, a3, a4⟩ := f5 rfl
        rw [show (part x ++ part y).take 4 = part x from rfl, show ((part x ++ part y).drop 4).take 4 = part y from rfl, sg_part ⟨a1, a2⟩, sg_part ⟨a3, a4⟩, q1 (by omega), q2 (by omega), q3 (by omega) (by omega)]
      · rw [if_neg (show ¬ k.toNat = 5 by omega), if_neg c5]
        obtain ⟨a1, a2, a3⟩ : Fits i := by
          rcases (show k = 3 ∨ k = 4 by omega) with c | c
          · exact f3 c
          · exact (f4 c).1
        have e0 : many (two i.length ++ i.flatMap tx) = i.length := by
          show min (numN (two i.length)) 256 = _
          rw [numN_two (by omega)]; omega
        have e := rows_tx i [] (fun z hz => by have := a1 z hz; omega) i.length (Nat.le_refl _)
        rw [List.append_nil, List.take_length] at e
        obtain ⟨rfl, rfl⟩ := q5 c5
        rw [e0, show (two i.length ++ i.flatMap tx).drop 2 = i.flatMap tx from rfl, e, q1 c1, q2 c2]
        rcases (show k = 3 ∨ k = 4 by omega) with rfl | rfl <;> rfl
/-- how great it can be -/
theorem rdr_small (s : Nm) : (rdrV s).pairs.length ≤ 256 ∧ (rdrV s).items.length ≤ 256 ∧ (rdrV s).text.length < 65536 ∧ (∀ x ∈ (rdrV s).pairs, x.1.length < 65536 ∧ x.2.length < 65536) ∧ (∀ x ∈ (rdrV s).items, x.length < 65536) ∧ (0 ≤ (rdrV s).kind ∧ (rdrV s).kind < 256) ∧ (-2147483648 ≤ (rdrV s).px ∧ (rdrV s).px < 2147483648) ∧ (-2147483648 ≤ (rdrV s).py ∧ (rdrV s).py < 2147483648) := by
  have hsg : ∀ r : Nm, -2147483648 ≤ sg (numN (r.take 4)) ∧ sg (numN (r.take 4)) < 2147483648 := fun r => by
    have := numN_4 r
    unfold sg
    split <;> omega
  have h1 := numN_1 s
  have hm : ∀ r, many r ≤ 256 := fun r => Nat.min_le_right _ _
  have hT := fun n r => rows_mem tkT (fun x => x.length < 65536) tkT_len n r
  have hP := fun n r => rows_mem tkP (fun x => x.1.length < 65536 ∧ x.2.length < 65536) (fun r => ⟨tkT_len _, tkT_len _⟩) n r
  unfold rdrV
  have nP : ∀ x ∈ ([] : List (Nm × Nm)), x.1.length < 65536 ∧ x.2.length < 65536 := fun x hx => by cases hx
  have nT : ∀ x ∈ ([] : List Nm), x.length < 65536 := fun x hx => by cases hx
  have z0 : ([] : List (Nm × Nm)).length ≤ 256 := by simp
  have z1 : ([] : List Nm).length ≤ 256 := by simp
  have z2 : ([] : Nm).length < 65536 := by simp
  have zp : (-2147483648 : Int) ≤ 0 ∧ (0 : Int) < 2147483648 := by decide
  have lT : ∀ r q, (rows tkT (many r) q).1.length ≤ 256 := fun r q => by rw [rows_len]; exact hm _
  have lP : ∀ r q, (rows tkP (many r) q).1.length ≤ 256 := fun r q => by rw [rows_len]; exact hm _
  split
  · exact ⟨z0, z1, tkT_len _, nP, nT, (by decide : (0 : Int) ≤ 1 ∧ (1 : Int) < 256), zp, zp⟩
  · split
    · exact ⟨lP _ _, z1, z2, hP _ _, nT, (by decide : (0 : Int) ≤ 2 ∧ (2 : Int) < 256), zp, zp⟩
    · split
      · exact ⟨z0, lT _ _, z2, nP, hT _ _, (by decide : (0 : Int) ≤ 4 ∧ (4 : Int) < 256), zp, zp⟩
      · split
        · exact ⟨z0, lT _ _, z2, nP, hT _ _, (by decide : (0 : Int) ≤ 3 ∧ (3 : Int) < 256), zp, zp⟩
        · split
          · exact ⟨z0, z1, z2, nP, nT, (by decide : (0 : Int) ≤ 5 ∧ (5 : Int) < 256), hsg _, hsg _⟩
          · exact ⟨z0, z1, z2, nP, nT, (by omega : (0 : Int) ≤ (numN (s.take 1) : Int) ∧ (numN (s.take 1) : Int) < 256), zp, zp⟩
/-- what is read, written again, is what is there, or it is no value's -/
theorem load_rdr {s : Nm} (hr : RtV (rdrV (s.take (s.length - 2)))) (hd : dumpV (rdrV (s.take (s.length - 2))) = s) : loadV s = (rdrV (s.take (s.length - 2)), 0) := by
  have := load_dump hr
  rwa [hd] at this
theorem load_nor {s : Nm} (h : ¬ s.length < 3) (k : sumOk s) (hr : ¬ (RtV (rdrV (s.take (s.length - 2))) ∧ dumpV (rdrV (s.take (s.length - 2))) = s)) : loadV s = (zeroV, 100) := by
  refine load_none h k fun ⟨m, hm, e⟩ => hr ?_
  subst e
  rw [dump_take, rdr_body hm]
  exact ⟨hm, rfl⟩
theorem sumOk_num {s : Nm} (h : 3 ≤ s.length) : sumOk s ↔ numN (s.drop (s.length - 2)) = sumN (s.take (s.length - 2)) := by
  have hl : (s.drop (s.length - 2)).length = 2 := by simp; omega
  match hx : s.drop (s.length - 2), hl with
  | [a, b], _ =>
    unfold sumOk
    rw [hx, numN_pair]
    constructor
    · intro e
      have := numN_two (sumN_lt (s.take (s.length - 2)))
      rw [← e, numN_pair] at this
      exact this
    · intro e
      rw [← e, num_two]

end Go.Proofs.YtppgifaegnmciaaDoor

namespace Go.Proofs.YtppgifaegnmciaaDoor
open Go.RowKit
open Crc

/-- a row of pairs -/
def Prs (w : World) (p : Option Addr) (l : List (Nm × Nm)) : Prop := l ≠ [] → ∃ b o, p = some ⟨b, o, none⟩ ∧ ∀ i (h : i < l.length), w.cell? ⟨b, o + i * 2, none⟩ = some (txt l[i].1) ∧ w.cell? ⟨b, o + i * 2 + 1, none⟩ = some (txt l[i].2)
theorem Prs.below {w w' : World} {p : Option Addr} {l : List (Nm × Nm)} (h : Prs w p l) (k : Below w.heap.size w w') : Prs w' p l := fun hne => by
  obtain ⟨b, o, rfl, hc⟩ := h hne
  exact ⟨b, o, rfl, fun i hi => ⟨cell_turn (hc i hi).1 (k.block b (block_lt_of_cell (hc i hi).1)), cell_turn (hc i hi).2 (k.block b (block_lt_of_cell (hc i hi).1))⟩⟩
structure Rp (w : World) (p : Option Addr) (c : Nat) (l : List (Nm × Nm)) : Prop where
  prs : Prs w p l
  nil : p = none → c = 0
  cap : l.length ≤ c
theorem Rp.below {w w' : World} {p : Option Addr} {c : Nat} {l : List (Nm × Nm)} (h : Rp w p c l) (k : Below w.heap.size w w') : Rp w' p c l := ⟨h.prs.below k, h.nil, h.cap⟩
theorem Rp.nilRow (w : World) : Rp w none 0 [] := ⟨fun h => absurd rfl h, fun _ => rfl, Nat.le_refl _⟩
/-- a value's cells -/
abbrev vcs (m : Vl) (pp : Option Addr) (pc : Nat) (ip : Option Addr) (ic : Nat) : Array Value := #[.int .i64 m.kind, txt m.text, .slice pp m.pairs.length pc, .slice ip m.items.length ic, .int .i64 m.px, .int .i64 m.py]
abbrev vv (m : Vl) (pp : Option Addr) (pc : Nat) (ip : Option Addr) (ic : Nat) : Value := .agg (vcs m pp pc ip ic)
abbrev vob (m : Vl) (pp : Option Addr) (pc : Nat) (ip : Option Addr) (ic : Nat) : Obj := .cells (vcs m pp pc ip ic) 34
/-- what it points to -/
structure VI (w : World) (m : Vl) (pp : Option Addr) (pc : Nat) (ip : Option Addr) (ic : Nat) : Prop where
  pairs : Rp w pp pc m.pairs
  items : Rd w ip ic m.items
theorem VI.below {w w' : World} {m : Vl} {pp : Option Addr} {pc : Nat} {ip : Option Addr} {ic : Nat} (h : VI w m pp pc ip ic) (k : Below w.heap.size w w') : VI w' m pp pc ip ic := ⟨h.pairs.below k, h.items.below k⟩
theorem VI.zero (w : World) : VI w zeroV none 0 none 0 := ⟨Rp.nilRow w, Rd.nilRow w⟩
theorem infoV (c : Array Value) (h : c.size = 6) : (Tryd.prog.info? 34).map (·.size) = some c.size := by
  rw [h]; kernel_rfl
theorem val_facts {w : World} {b : Nat} {c0 c1 c2 c3 c4 c5 : Value} (h : w.heap[b]? = some (.cells #[c0, c1, c2, c3, c4, c5] 34 (0, 0))) :
    w.cell? ⟨b, 0, none⟩ = some c0 ∧ w.cell? ⟨b, 1, none⟩ = some c1 ∧ w.cell? ⟨b, 2, none⟩ = some c2 ∧ w.cell? ⟨b, 3, none⟩ = some c3 ∧ w.cell? ⟨b, 4, none⟩ = some c4 ∧ w.cell? ⟨b, 5, none⟩ = some c5 :=
  ⟨cell_of_row w b 0 _ _ _ h, cell_of_row w b 1 _ _ _ h, cell_of_row w b 2 _ _ _ h, cell_of_row w b 3 _ _ _ h, cell_of_row w b 4 _ _ _ h, cell_of_row w b 5 _ _ _ h⟩
theorem val_frozen {w : World} {b : Nat} {c0 c1 c2 c3 c4 c5 : Value} (h : w.heap[b]? = some (.cells #[c0, c1, c2, c3, c4, c5] 34 (0, 0))) :
    w.frozen? ⟨b, 0, none⟩ = false ∧ w.frozen? ⟨b, 1, none⟩ = false ∧ w.frozen? ⟨b, 2, none⟩ = false ∧ w.frozen? ⟨b, 3, none⟩ = false ∧ w.frozen? ⟨b, 4, none⟩ = false ∧ w.frozen? ⟨b, 5, none⟩ = false :=
  ⟨frozen_of_row w b 0 _ _ h, frozen_of_row w b 1 _ _ h, frozen_of_row w b 2 _ _ h, frozen_of_row w b 3 _ _ h, frozen_of_row w b 4 _ _ h, frozen_of_row w b 5 _ _ h⟩
theorem val_new (w : World) (m : Vl) (pp : Option Addr) (pc : Nat) (ip : Option Addr) (ic : Nat) : (w.alloc (vob m pp pc ip ic)).heap[w.heap.size]? = some (.cells (vcs m pp pc ip ic) 34 (0, 0)) := heap_alloc_new w _
theorem ret_val {fn : Func} {p : Tmp} (h : fn.results = #[.cell p 34]) {tmps : Array Value} {w : World} {b : Nat} {c0 c1 c2 c3 c4 c5 : Value} (hp : tmps.getD p undef = .pointer (some ⟨b, 0, none⟩)) (hB : w.heap[b]? = some (.cells #[c0, c1, c2, c3, c4, c5] 34 (0, 0))) :
    (results fn tmps).run Tryd.prog w = .ok (.agg #[c0, c1, c2, c3, c4, c5]) w :=
  results_cell_row h tmps w b 34 #[c0, c1, c2, c3, c4, c5] (0, 0) _ hp hB Tryd.underlying34 rfl (infoV _ rfl)
theorem ret_vtel {fn : Func} {p q : Tmp} (h : fn.results = #[.cell p 34, .tmp q]) {tmps : Array Value} {w : World} {b : Nat} {c0 c1 c2 c3 c4 c5 v : Value} (hp : tmps.getD p undef = .pointer (some ⟨b, 0, none⟩)) (hq : tmps.getD q undef = v) (hB : w.heap[b]? = some (.cells #[c0, c1, c2, c3, c4, c5] 34 (0, 0))) :
    (results fn tmps).run Tryd.prog w = .ok (.tuple #[.agg #[c0, c1, c2, c3, c4, c5], v]) w := by
  have hp' : tmps[p]?.getD undef = .pointer (some ⟨b, 0, none⟩) := by simpa using hp
  have hq' : tmps[q]?.getD undef = v := by simpa using hq
  simp [results, h, hp', hq', asAddr, run_loadVar_row w b 34 34 #[c0, c1, c2, c3, c4, c5] (0, 0) _ hB Tryd.underlying34 rfl (infoV _ rfl)]
theorem app_ba (a b : List UInt8) : (⟨a.toArray⟩ ++ ⟨b.toArray⟩ : ByteArray) = ⟨(a ++ b).toArray⟩ := by
  apply ByteArray.ext
  simp [ByteArray.data_append]

open Classical in
noncomputable def rtB (x y : Int) : Bool := decide (rtP x y)
open Classical in
theorem rtB_yes {x y : Int} (h : rtP x y) : rtB x y = true := by unfold rtB; exact decide_eq_true h
open Classical in
theorem rtB_no {x y : Int} (h : ¬ rtP x y) : rtB x y = false := by unfold rtB; exact decide_eq_false h
open Classical in
theorem rtB_iff {x y : Int} : rtB x y = true ↔ rtP x y := by unfold rtB; exact decide_eq_true_iff
abbrev pv (x y : Int) : Value := .agg #[.int .i64 x, .int .i64 y]
abbrev pc (x y : Int) : Obj := .cells #[.int .i64 x, .int .i64 y] 32
theorem rtv1 {t : Nm} (h : t.length ≤ 4096) : RtV ⟨1, t, [], [], 0, 0⟩ := RtV.mk (fun h => absurd rfl h) (fun _ => rfl) (fun _ _ => rfl) (fun _ => ⟨rfl, rfl⟩) (show 1 ≤ (1 : Int) ∧ (1 : Int) ≤ 5 by decide) (fun _ => h) (fun h => absurd h (show (1 : Int) ≠ 2 by decide)) (fun h => absurd h (show (1 : Int) ≠ 3 by decide)) (fun h => absurd h (show (1 : Int) ≠ 4 by decide)) (fun h => absurd h (show (1 : Int) ≠ 5 by decide))
theorem rtv2 {ps : List (Nm × Nm)} (h : Fits (ps.map (·.1)) ∧ Ris (ps.map (·.1)) ∧ Fits (ps.map (·.2))) : RtV ⟨2, [], ps, [], 0, 0⟩ := RtV.mk (fun _ => rfl) (fun h => absurd rfl h) (fun _ _ => rfl) (fun _ => ⟨rfl, rfl⟩) (show 1 ≤ (2 : Int) ∧ (2 : Int) ≤ 5 by decide) (fun h => absurd h (show (2 : Int) ≠ 1 by decide)) (fun _ => h) (fun h => absurd h (show (2 : Int) ≠ 3 by decide)) (fun h => absurd h (show (2 : Int) ≠ 4 by decide)) (fun h => absurd h (show (2 : Int) ≠ 5 by decide))
theorem rtv3 {is : List Nm} (h : Fits is) : RtV ⟨3, [], [], is, 0, 0⟩ := RtV.mk (fun _ => rfl) (fun _ => rfl) (fun h _ => absurd rfl h) (fun _ => ⟨rfl, rfl⟩) (show 1 ≤ (3 : Int) ∧ (3 : Int) ≤ 5 by decide) (fun h => absurd h (show (3 : Int) ≠ 1 by decide)) (fun h => absurd h (show (3 : Int) ≠ 2 by decide)) (fun _ => h) (fun h => absurd h (show (3 : Int) ≠ 4 by decide)) (fun h => absurd h (show (3 : Int) ≠ 5 by decide))
theorem rtv4 {is : List Nm} (h : Fits is ∧ Ris is) : RtV ⟨4, [], [], is, 0, 0⟩ := RtV.mk (fun _ => rfl) (fun _ => rfl) (fun _ h => absurd rfl h) (fun _ => ⟨rfl, rfl⟩) (show 1 ≤ (4 : Int) ∧ (4 : Int) ≤ 5 by decide) (fun h => absurd h (show (4 : Int) ≠ 1 by decide)) (fun h => absurd h (show (4 : Int) ≠ 2 by decide)) (fun h => absurd h (show (4 : Int) ≠ 3 by decide)) (fun _ => h) (fun h => absurd h (show (4 : Int) ≠ 5 by decide))
theorem rtv5 {x y : Int} (h : rtP x y) : RtV ⟨5, [], [], [], x, y⟩ := RtV.mk (fun _ => rfl) (fun _ => rfl) (fun _ _ => rfl) (fun h => absurd rfl h) (show 1 ≤ (5 : Int) ∧ (5 : Int) ≤ 5 by decide) (fun h => absurd h (show (5 : Int) ≠ 1 by decide)) (fun h => absurd h (show (5 : Int) ≠ 2 by decide)) (fun h => absurd h (show (5 : Int) ≠ 3 by decide)) (fun h => absurd h (show (5 : Int) ≠ 4 by decide)) (fun _ => h)
theorem al_two (w : World) (a b : Obj) : Below w.heap.size w ((w.alloc a).alloc b) ∧ ((w.alloc a).alloc b).heap[w.heap.size]? = some a ∧ ((w.alloc a).alloc b).heap[w.heap.size + 1]? = some b ∧ ((w.alloc a).alloc b).heap.size = w.heap.size + 2 := by
  refine ⟨(below_alloc w a).trans ((below_alloc _ b).mono (by simp)), ?_, ?_, by simp⟩
  · rw [heap_alloc_old _ _ (by simp)]; exact heap_alloc_new w a
  · have := heap_alloc_new (w.alloc a) b
    rwa [show (w.alloc a).heap.size = w.heap.size + 1 by simp] at this
theorem pt_cells {w : World} {b : Nat} {x y : Value} (h : w.heap[b]? = some (.cells #[x, y] 32 (0, 0))) :
    (w.cell? ⟨b, 0, none⟩ = some x ∧ w.cell? ⟨b, 1, none⟩ = some y) ∧ w.frozen? ⟨b, 0, none⟩ = false ∧ w.frozen? ⟨b, 1, none⟩ = false :=
  ⟨⟨cell_of_row w b 0 _ _ _ h, cell_of_row w b 1 _ _ _ h⟩, frozen_of_row w b 0 _ _ h, frozen_of_row w b 1 _ _ h⟩

theorem ret_int {k : IntKind} {a b : Int} (h : a = b) : Ending.returned (.int k a) = .returned (.int k b) := by rw [h]
theorem xor16 (a b : BitVec 16) : bits BinOp.xor IntKind.u16 (a.toNat : Int) (b.toNat : Int) = ((a ^^^ b).toNat : Int) := by
  rw [u16_xor_nat _ _ a.isLt b.isLt, BitVec.toNat_xor]
/-- a slice's bytes, read from memory; whatever the address of an empty one -/
def Bts (w : World) (a : Option Addr) (l : List (BitVec 8)) : Prop :=
  l.length ≤ 9223372036854775807 ∧ (l ≠ [] → ∃ b off, a = some ⟨b, off, none⟩ ∧ ∀ j, j < l.length → w.cell? ⟨b, off + j, none⟩ = some (.int .u8 ((l.getD j 0#8).toNat : Int)))

theorem take_snoc (l : List (BitVec 8)) (k : Nat) (h : k < l.length) : l.take (k + 1) = l.take k ++ [l.getD k 0#8] := by
  rw [List.take_succ_eq_append_getElem h]
  simp [List.getD, h]
theorem more_snoc (c : BitVec 16) (l : List (BitVec 8)) (k : Nat) (h : k < l.length) : more c (l.take (k + 1)) = Crc.step (more c (l.take k)) (l.getD k 0#8) := by
  rw [take_snoc l k h, more_append]
  rfl

/-- bytes in memory -/
def Byts (w : World) (a : Option Addr) (l : Nm) : Prop := Bts w a (l.map UInt8.toBitVec)
theorem info5 : (Tryd.prog.info? 5).map (fun i => (i.zero, i.size, i.bytes)) = some (some (.int .u8 0), 1, 1) := by kernel_rfl
/-- bytes under way, in a row of the call's own -/
structure Txt (B : Nat) (w1 : World) (W : World) (v : Value) (T : List UInt8) : Prop where
  own : W.ownsRow B 5 1 v T.length (Lib.byteCells T)
  bel : Below B w1 W
  size : B ≤ W.heap.size
theorem Txt.str {B : Nat} {w1 W : World} {v : Value} {T : List UInt8} (h : Txt B w1 W v T) (l : List UInt8) (hT : T.length + l.length ≤ 140737488350000) :
    ∃ v' W', (Builtin.append_ #[28, 9] 28 #[v, .string ⟨l.toArray⟩]).run Tryd.prog W = .ok v' W' ∧ Txt B w1 W' v' (T ++ l) := by
  obtain ⟨i0, hi, hz0, hz1, hz2⟩ := info_parts info5
  have hs := h.size
  have hsz : (⟨l.toArray⟩ : ByteArray).size = l.length := by simp [ByteArray.size]
  obtain ⟨v', w', hrun, ho, hgr, _⟩ := Lib.run_append_own_string (P := Tryd.prog) W B 28 9 28 5 i0 Tryd.underlying28 Tryd.underlying9 hi hz0 hz1 hz2 _ _ _ h.own ⟨l.toArray⟩ (by rw [hsz]; unfold maxLen; omega) (by rw [hsz]; omega) hs
  refine ⟨v', w', hrun, ⟨?_, ?_, ?_⟩⟩
  · rw [Lib.byteCells_append, List.length_append, ← hsz]
    exact ho
  · exact h.bel.grown hgr hs (fun k hk => (World.ownsRow.lt h.own k hk).1)
  · exact Nat.le_trans hs hgr.size
theorem Txt.go {B : Nat} {w1 W W' : World} {v : Value} {T : List UInt8} (h : Txt B w1 W v T) (hb : Below W.heap.size W W') : Txt B w1 W' v T := ⟨owns_below h.own hb, h.bel.trans (hb.mono h.size), Nat.le_trans h.size hb.size⟩
theorem Txt.shape {B : Nat} {w1 W : World} {v : Value} {T : List UInt8} (h : Txt B w1 W v T) : ∃ q d, v = .slice q T.length d := by
  rcases h.own.2 with ⟨rfl, h0⟩ | ⟨g, cap, cur, rfl, _⟩
  · exact ⟨none, 0, by rw [h0]⟩
  · exact ⟨_, cap, rfl⟩
/-- the first byte -/
theorem Txt.one (w1 : World) (c : UInt8) : Txt w1.heap.size w1 (w1.alloc (.cells #[.int .u8 (c.toNat : Int)] 5)) (.slice (some ⟨w1.heap.size, 0, none⟩) 1 1) [c] :=
  ⟨World.ownsRow_lit (base := w1.heap.size) (e := 5) (size := 1) w1 #[.int .u8 (c.toNat : Int)] 1 (Nat.le_refl _) (by decide) rfl, below_alloc w1 _, by simp⟩
/-- a value in its block, and what it points to -/
theorem box_kept {w : World} {m : Vl} {pp : Option Addr} {pc' : Nat} {ip : Option Addr} {ic : Nat} {W : World} (h : Below (w.heap.size + 1) (w.alloc (vob m pp pc' ip ic)) W) : W.heap[w.heap.size]? = some (.cells (vcs m pp pc' ip ic) 34 (0, 0)) := (h.block w.heap.size (by omega)).trans (val_new w m pp pc' ip ic)
theorem box_below {w : World} {o : Obj} {W : World} (h : Below (w.heap.size + 1) (w.alloc o) W) : Below w.heap.size w W := (below_alloc w o).trans (h.mono (by omega))

theorem ownsRow_base {W : World} {B B' : Nat} {e : TypeId} {size : Nat} {v : Value} {n : Nat} {xs : List Value} (h : W.ownsRow B' e size v n xs) (hb : B ≤ B') : W.ownsRow B e size v n xs := by
  refine ⟨h.1, ?_⟩
  rcases h.2 with h | ⟨g, cap, cur, h1, h2, h3⟩
  · exact .inl h
  · exact .inr ⟨g, cap, cur, h1, Nat.le_trans hb h2, h3⟩

theorem tx_len (s : Nm) : (tx s).length = s.length + 2 := by simp [tx, two]
theorem flat_le {l : List Nm} (h : ∀ x ∈ l, x.length ≤ 1024) : ∀ k, ((l.take k).flatMap tx).length ≤ 1026 * k
  | 0 => by simp
  | k + 1 => by
    have ih := flat_le h k
    by_cases hk : k < l.length
    · have e : (l.take (k + 1)).flatMap tx = (l.take k).flatMap tx ++ tx l[k] := by
        rw [List.take_succ_eq_append_getElem hk, List.flatMap_append, List.flatMap_cons, List.flatMap_nil, List.append_nil]
      have := h _ (List.getElem_mem hk)
      rw [e, List.length_append, tx_len]
      omega
    · rw [List.take_of_length_le (by omega)]
      rw [List.take_of_length_le (by omega)] at ih
      omega
theorem flat_take_succ {l : List (Nm × Nm)} {i : Nat} (h : i < l.length) : (flat (l.take (i + 1))).flatMap tx = (flat (l.take i)).flatMap tx ++ tx l[i].1 ++ tx l[i].2 := by
  have e : flat (l.take i ++ [l[i]]) = flat (l.take i) ++ [l[i].1, l[i].2] := by unfold flat; rw [List.flatMap_append]; rfl
  rw [List.take_succ_eq_append_getElem h, e, List.flatMap_append]
  show _ ++ (tx _ ++ (tx _ ++ [])) = _
  simp only [List.append_nil, List.append_assoc]
theorem flat_le2 {l : List (Nm × Nm)} (h1 : ∀ x ∈ l.map (·.1), x.length ≤ 1024) (h2 : ∀ x ∈ l.map (·.2), x.length ≤ 1024) : ∀ k, k ≤ l.length → ((flat (l.take k)).flatMap tx).length ≤ 2052 * k
  | 0, _ => by simp [flat]
  | k + 1, hk => by
    have ih := flat_le2 h1 h2 k (by omega)
    have hk' : k < l.length := by omega
    have a := h1 _ (List.mem_map_of_mem (f := (·.1)) (List.getElem_mem hk'))
    have b := h2 _ (List.mem_map_of_mem (f := (·.2)) (List.getElem_mem hk'))
    rw [flat_take_succ hk', List.length_append, List.length_append, tx_len, tx_len]
    omega
/-- what Dump tells -/
noncomputable def dumpS (m : Vl) : Nm := if rightB m = true then dumpV m else []
theorem owns_string {B : Nat} {W : World} {v : Value} {T : List UInt8} (h : W.ownsRow B 5 1 v T.length (Lib.byteCells T)) : (convert 28 9 v).run Tryd.prog W = .ok (.string ⟨T.toArray⟩) W := by
  rcases h.2 with ⟨rfl, h0⟩ | ⟨g, cap, cur, rfl, _⟩
  · rw [List.length_eq_zero_iff.1 h0]
    exact run_convert_bytes_nil W 28 5 Tryd.underlying28 Tryd.underlying5 0 0 9 Tryd.underlying9
  · exact run_convert_bytes_back (P := Tryd.prog) W 28 9 5 ⟨g, 0, none⟩ cap T Tryd.underlying28 Tryd.underlying5 Tryd.underlying9 (fun j hj => World.ownsRow.cells h (g := g) rfl j _ (by simp [Lib.byteCells, hj]))
theorem own_byts {B : Nat} {W : World} {q : Option Addr} {n d : Nat} {T : Nm} (h : W.ownsRow B 5 1 (.slice q n d) T.length (Lib.byteCells T)) (hl : T.length ≤ 9223372036854775807) : Byts W q T := by
  refine ⟨by simpa using hl, fun hne => ?_⟩
  rcases h.2 with ⟨h1, h0⟩ | ⟨g, cap, cur, h1, _⟩
  · exact absurd (by rw [List.length_eq_zero_iff.1 h0]; rfl) hne
  · injection h1 with e1 e2 e3
    subst e1 e2 e3
    refine ⟨g, 0, rfl, fun j hj => ?_⟩
    have hj' : j < T.length := by simpa using hj
    have := World.ownsRow.cells h (g := g) rfl j (.int .u8 (T[j].toNat : Int)) (by simp [Lib.byteCells, hj'])
    rw [Go.WideShapes.add_plain] at this
    rw [this]
    simp [List.getD, hj']
theorem body_max {m : Vl} (h : RtV m) : (bodyV m).length ≤ 1000000 := by
  obtain ⟨k, t, ps, is, x, y⟩ := m
  obtain ⟨q1, q2, q3, q5, kk, f1, f2, f3, f4, f5⟩ := h
  dsimp only at *
  unfold bodyV inner
  rw [List.length_cons]
  dsimp only
  split
  · rename_i c; have := f1 c; rw [tx_len]; omega
  · split
    · rename_i c1 c
      obtain ⟨⟨a1, a2, a3⟩, _, ⟨b1, _, _⟩⟩ := f2 c
      have := flat_le2 a1 b1 ps.length (Nat.le_refl _)
      rw [List.take_length] at this
      simp only [List.length_map] at a3
      rw [List.length_append, two_len]; omega
    · split
      · show 8 + 1 ≤ _; omega
      · rename_i c1 c2 c5
        obtain ⟨a1, a2, a3⟩ : Fits is := by
          rcases (show k = 3 ∨ k = 4 by omega) with c | c
          · exact f3 c
          · exact (f4 c).1
        have := flat_le a1 is.length
        rw [List.take_length] at this
        rw [List.length_append, two_len]; omega

def typeV (k : Int) : Nm := if k = 1 then [115, 116, 114, 105, 110, 103] else if k = 2 then [104, 97, 115, 104] else if k = 3 then [108, 105, 115, 116] else if k = 4 then [115, 101, 116] else if k = 5 then [112, 111, 105, 110, 116] else [110, 111, 110, 101]
theorem dumpS_max (m : Vl) : (dumpS m).length ≤ 1000002 := by
  unfold dumpS
  split
  · rename_i h
    have := body_max (rightB_iff.1 h)
    rw [dump_len]
    omega
  · simp
/-- the rows lie in blocks from B on -/
structure Fr (B : Nat) (pp ip : Option Addr) : Prop where
  pairs : ∀ a, pp = some a → B ≤ a.block
  items : ∀ a, ip = some a → B ≤ a.block
theorem Fr.none (B : Nat) : Fr B none none := ⟨(fun _ h => by cases h), (fun _ h => by cases h)⟩
theorem Fr.mono {B C : Nat} {pp ip : Option Addr} (h : Fr B pp ip) (hc : C ≤ B) : Fr C pp ip := ⟨fun a e => Nat.le_trans hc (h.pairs a e), fun a e => Nat.le_trans hc (h.items a e)⟩
theorem owns_block {B : Nat} {w : World} {e : TypeId} {size : Nat} {q : Option Addr} {n m d : Nat} {xs : List Value} (h : w.ownsRow B e size (.slice q n d) m xs) : ∀ a, q = some a → B ≤ a.block := fun a ha => by
  rcases h.2 with ⟨h1, _⟩ | ⟨g, cap, cur, h1, h2, _⟩
  · injection h1 with h1; rw [ha] at h1; cases h1
  · injection h1 with h1; rw [ha] at h1; injection h1 with h1; subst h1; exact h2
theorem strs_set {W : World} {p : Option Addr} {l : Row} {b k : Nat} {x : Value} (h : Strs W p l) (hb : ∀ a, p = some a → b < a.block) : Strs (W.setCell ⟨b, k, none⟩ x) p l := fun hne => by
  obtain ⟨g, o, rfl, hc⟩ := h hne
  have := hb _ rfl
  exact ⟨g, o, rfl, fun i hi => cell_turn (hc i hi) (heap_setCell_other _ _ _ _ (by simp only at *; omega))⟩
theorem prs_set {W : World} {p : Option Addr} {l : List (Nm × Nm)} {b k : Nat} {x : Value} (h : Prs W p l) (hb : ∀ a, p = some a → b < a.block) : Prs (W.setCell ⟨b, k, none⟩ x) p l := fun hne => by
  obtain ⟨g, o, rfl, hc⟩ := h hne
  have := hb _ rfl
  exact ⟨g, o, rfl, fun i hi => ⟨cell_turn (hc i hi).1 (heap_setCell_other _ _ _ _ (by simp only at *; omega)), cell_turn (hc i hi).2 (heap_setCell_other _ _ _ _ (by simp only at *; omega))⟩⟩
theorem VI.set {W : World} {m : Vl} {pp : Option Addr} {pc' : Nat} {ip : Option Addr} {ic : Nat} {B b : Nat} (h : VI W m pp pc' ip ic) (hf : Fr B pp ip) (hb : b < B) (k : Nat) (x : Value) : VI (W.setCell ⟨b, k, none⟩ x) m pp pc' ip ic :=
  ⟨⟨prs_set h.pairs.prs (fun a e => Nat.lt_of_lt_of_le hb (hf.pairs a e)), h.pairs.nil, h.pairs.cap⟩, ⟨strs_set h.items.strs (fun a e => Nat.lt_of_lt_of_le hb (hf.items a e)), h.items.nil, h.items.cap⟩⟩
theorem VI.set6 {W : World} {m : Vl} {pp : Option Addr} {pc' : Nat} {ip : Option Addr} {ic : Nat} {B b : Nat} (h : VI W m pp pc' ip ic) (hf : Fr B pp ip) (hb : b < B) (v0 v1 v2 v3 v4 v5 : Value) : VI ((((((W.setCell ⟨b, 0, none⟩ v0).setCell ⟨b, 1, none⟩ v1).setCell ⟨b, 2, none⟩ v2).setCell ⟨b, 3, none⟩ v3).setCell ⟨b, 4, none⟩ v4).setCell ⟨b, 5, none⟩ v5) m pp pc' ip ic :=
  (((((h.set hf hb 0 v0).set hf hb 1 v1).set hf hb 2 v2).set hf hb 3 v3).set hf hb 4 v4).set hf hb 5 v5
/-- a value laid over another one, cell by cell -/
theorem set_six {B : Nat} {w W : World} {b : Nat} {c0 c1 c2 c3 c4 c5 v0 v1 v2 v3 v4 v5 : Value} (h : W.heap[b]? = some (.cells #[c0, c1, c2, c3, c4, c5] 34 (0, 0))) (hW : Below B w W) (hb : B ≤ b) :
    ((((((W.setCell ⟨b, 0, none⟩ v0).setCell ⟨b, 1, none⟩ v1).setCell ⟨b, 2, none⟩ v2).setCell ⟨b, 3, none⟩ v3).setCell ⟨b, 4, none⟩ v4).setCell ⟨b, 5, none⟩ v5).heap[b]? = some (.cells #[v0, v1, v2, v3, v4, v5] 34 (0, 0)) ∧ Below B w ((((((W.setCell ⟨b, 0, none⟩ v0).setCell ⟨b, 1, none⟩ v1).setCell ⟨b, 2, none⟩ v2).setCell ⟨b, 3, none⟩ v3).setCell ⟨b, 4, none⟩ v4).setCell ⟨b, 5, none⟩ v5) :=
  ⟨heap_setCell_same _ b 5 _ _ _ (heap_setCell_same _ b 4 _ _ _ (heap_setCell_same _ b 3 _ _ _ (heap_setCell_same _ b 2 _ _ _ (heap_setCell_same _ b 1 _ _ _ (heap_setCell_same _ b 0 _ _ _ h))))),
    (((((hW.setCell (p := ⟨b, 0, none⟩) (by simpa using hb) _).setCell (p := ⟨b, 1, none⟩) (by simpa using hb) _).setCell (p := ⟨b, 2, none⟩) (by simpa using hb) _).setCell (p := ⟨b, 3, none⟩) (by simpa using hb) _).setCell (p := ⟨b, 4, none⟩) (by simpa using hb) _).setCell (p := ⟨b, 5, none⟩) (by simpa using hb) _⟩
theorem own_set {W : World} {B : Nat} {v : Value} {l : Row} (h : Own B W v l) (b k : Nat) (x : Value) (hb : b < B) : Own B (W.setCell ⟨b, k, none⟩ x) v l := by
  refine ⟨h.1, ?_⟩
  rcases h.2 with h | ⟨g, cap, cur, h1, h2, h3, h4⟩
  · exact .inl h
  · exact .inr ⟨g, cap, cur, h1, h2, (heap_setCell_other _ _ _ _ (by simp only; omega)).trans h3, h4⟩
theorem own_set6 {W : World} {B : Nat} {v : Value} {l : Row} (h : Own B W v l) (b : Nat) (hb : b < B) (v0 v1 v2 v3 v4 v5 : Value) : Own B ((((((W.setCell ⟨b, 0, none⟩ v0).setCell ⟨b, 1, none⟩ v1).setCell ⟨b, 2, none⟩ v2).setCell ⟨b, 3, none⟩ v3).setCell ⟨b, 4, none⟩ v4).setCell ⟨b, 5, none⟩ v5) v l :=
  own_set (own_set (own_set (own_set (own_set (own_set h b 0 v0 hb) b 1 v1 hb) b 2 v2 hb) b 3 v3 hb) b 4 v4 hb) b 5 v5 hb

def pcs (l : List (Nm × Nm)) : List Value := l.flatMap fun p => [txt p.1, txt p.2]
theorem pcs_app (l m : List (Nm × Nm)) : pcs (l ++ m) = pcs l ++ pcs m := List.flatMap_append
theorem pcs_len (l : List (Nm × Nm)) : (pcs l).length = l.length * 2 := by
  induction l with
  | nil => rfl
  | cons p l ih => show ([txt p.1, txt p.2] ++ pcs l).length = _; simp [ih]; omega
theorem pcs_at : ∀ (l : List (Nm × Nm)) (i : Nat) (h : i < l.length), (pcs l)[i * 2]? = some (txt l[i].1) ∧ (pcs l)[i * 2 + 1]? = some (txt l[i].2)
  | p :: l, 0, _ => ⟨rfl, rfl⟩
  | p :: l, i + 1, h => by
    have := pcs_at l i (by simpa using h)
    have e : pcs (p :: l) = txt p.1 :: txt p.2 :: pcs l := rfl
    rw [e, show (i + 1) * 2 = i * 2 + 1 + 1 by omega, List.getElem?_cons_succ, List.getElem?_cons_succ, List.getElem?_cons_succ, List.getElem?_cons_succ]
    simpa using this
abbrev OwnP (B : Nat) (w : World) (v : Value) (l : List (Nm × Nm)) : Prop := w.ownsRow B 83 2 v l.length (pcs l)
theorem infoP : (Tryd.prog.info? 83).map (fun i => (i.zero, i.size, i.bytes)) = some (some (.agg #[.string ⟨#[]⟩, .string ⟨#[]⟩]), 2, 32) := by kernel_rfl
theorem OwnP.shape {B : Nat} {w : World} {v : Value} {l : List (Nm × Nm)} (h : OwnP B w v l) : ∃ q d, v = .slice q l.length d := by
  rcases h.2 with ⟨rfl, h0⟩ | ⟨g, cap, cur, rfl, _⟩
  · exact ⟨none, 0, by rw [h0]⟩
  · exact ⟨_, cap, rfl⟩
theorem OwnP.rp {B : Nat} {w : World} {q : Option Addr} {n d : Nat} {l : List (Nm × Nm)} (h : OwnP B w (.slice q n d) l) : Rp w q d l := by
  rcases h.2 with ⟨h1, h0⟩ | ⟨g, cap, cur, h1, h2, h3, h4, _⟩
  · injection h1 with e1 e2 e3
    subst e1 e2 e3
    rw [List.length_eq_zero_iff.1 h0]
    exact Rp.nilRow w
  · injection h1 with e1 e2 e3
    subst e1 e2 e3
    refine ⟨fun _ => ⟨g, 0, rfl, fun i hi => ?_⟩, (fun h => by cases h), h4⟩
    have c0 := World.ownsRow.cells h (g := g) rfl (i * 2) _ (pcs_at l i hi).1
    have c1 := World.ownsRow.cells h (g := g) rfl (i * 2 + 1) _ (pcs_at l i hi).2
    rw [Go.WideShapes.add_plain] at c0 c1
    exact ⟨c0, c1⟩
theorem OwnP.set {W : World} {B : Nat} {v : Value} {l : List (Nm × Nm)} (h : OwnP B W v l) (b k : Nat) (x : Value) (hb : b < B) : OwnP B (W.setCell ⟨b, k, none⟩ x) v l := by
  refine ⟨h.1, ?_⟩
  rcases h.2 with h | ⟨g, cap, cur, h1, h2, h3, h4⟩
  · exact .inl h
  · exact .inr ⟨g, cap, cur, h1, h2, (heap_setCell_other _ _ _ _ (by simp only; omega)).trans h3, h4⟩
theorem OwnP.set6 {W : World} {B : Nat} {v : Value} {l : List (Nm × Nm)} (h : OwnP B W v l) (b : Nat) (hb : b < B) (v0 v1 v2 v3 v4 v5 : Value) : OwnP B ((((((W.setCell ⟨b, 0, none⟩ v0).setCell ⟨b, 1, none⟩ v1).setCell ⟨b, 2, none⟩ v2).setCell ⟨b, 3, none⟩ v3).setCell ⟨b, 4, none⟩ v4).setCell ⟨b, 5, none⟩ v5) v l :=
  (((((h.set b 0 v0 hb).set b 1 v1 hb).set b 2 v2 hb).set b 3 v3 hb).set b 4 v4 hb).set b 5 v5 hb
/-- a pair is put behind -/
theorem OwnP.push {B : Nat} {W : World} {v : Value} {l : List (Nm × Nm)} (h : OwnP B W v l) (hB : B ≤ W.heap.size) (a b : Nm) (hl : l.length ≤ 1000000) :
    ∃ v' W', (Builtin.append_ #[29, 29] 29 #[v, .slice (some ⟨W.heap.size, 0, none⟩) 1 1]).run Tryd.prog (W.alloc (.cells #[txt a, txt b] 83)) = .ok v' W' ∧ OwnP B W' v' (l ++ [(a, b)]) ∧ Below B W W' := by
  obtain ⟨i0, hi, hz0, hz1, hz2⟩ := info_parts infoP
  have hb := below_alloc W (.cells #[txt a, txt b] 83)
  have ho := owns_below h hb
  have hnews : ∀ j x, ([txt a, txt b] : List Value)[j]? = some x → (W.alloc (.cells #[txt a, txt b] 83)).cell? ((⟨W.heap.size, 0, none⟩ : Addr).add j) = some x := fun j x hj => by
    rw [Go.WideShapes.add_plain, cell_of_row _ _ _ _ _ _ (heap_alloc_new W _)]
    simpa using hj
  have hone : ∀ x ∈ ([txt a, txt b] : List Value), x.oneCell' = true := by
    intro x hx
    simp only [List.mem_cons, List.not_mem_nil, or_false] at hx
    rcases hx with rfl | rfl <;> rfl
  obtain ⟨v', w', hrun, ho', hgr, _⟩ := run_append_own (P := Tryd.prog) (W.alloc (.cells #[txt a, txt b] 83)) B 29 29 83 i0 (.agg #[.string ⟨#[]⟩, .string ⟨#[]⟩]) 2 32 Tryd.underlying29 hi hz0 hz1 hz2 rfl (by decide) _ _ _ ho ⟨W.heap.size, 0, none⟩ 1 1 [txt a, txt b] rfl hnews hone (by unfold maxLen; omega) (by omega) (Nat.le_trans hB hb.size)
  refine ⟨v', w', hrun, ?_, (hb.mono hB).trans ((Below.refl B _).grown hgr (Nat.le_trans hB hb.size) (fun k hk => (World.ownsRow.lt ho k hk).1))⟩
  show w'.ownsRow B _ 2 v' (l ++ [(a, b)]).length (pcs (l ++ [(a, b)]))
  rw [List.length_append, pcs_app]
  exact ho'
theorem bytesWorld_below (w : World) (e : TypeId) (s : ByteArray) : Below w.heap.size w (Lib.bytesWorld w e s) :=
  ⟨rfl, rfl, rfl, by rw [Lib.bytesWorld_size]; omega, fun k hk => Lib.bytesWorld_at_old w e s k hk⟩
theorem bytesWorld_row (w : World) (e : TypeId) (l : Nm) (hl : l.length ≤ 9223372036854775807) : Byts (Lib.bytesWorld w e ⟨l.toArray⟩) (some ⟨w.heap.size, 0, none⟩) l := by
  refine ⟨by simpa using hl, fun _ => ⟨w.heap.size, 0, rfl, fun j hj => ?_⟩⟩
  have hj' : j < l.length := by simpa using hj
  rw [Nat.zero_add, Lib.bytesWorld_cell w e ⟨l.toArray⟩ j (by simpa [ByteArray.size] using hj')]
  simp [List.getD, hj']
open Classical in
noncomputable def fitsB (l : Row) : Bool := decide (Fits l)
open Classical in
theorem fitsB_yes {l : Row} (h : Fits l) : fitsB l = true := by unfold fitsB; exact decide_eq_true h
open Classical in
theorem fitsB_no {l : Row} (h : ¬ Fits l) : fitsB l = false := by unfold fitsB; exact decide_eq_false h
open Classical in
theorem fitsB_iff {l : Row} : fitsB l = true ↔ Fits l := by unfold fitsB; exact decide_eq_true_iff
theorem ris_snoc {m : Row} {x : Nm} : Ris (m ++ [x]) ↔ Ris m ∧ ∀ y ∈ m, y < x := by
  unfold Ris
  rw [List.pairwise_append]
  simp
theorem ris_take {l : Row} {i : Nat} (h : i + 1 < l.length) (hr : Ris (l.take (i + 1))) (hlt : l[i] < l[i + 1]) : Ris (l.take (i + 1 + 1)) := by
  rw [List.take_succ_eq_append_getElem h, ris_snoc]
  refine ⟨hr, fun y hy => ?_⟩
  rw [List.take_succ_eq_append_getElem (by omega)] at hr hy
  rcases List.mem_append.1 hy with hy | hy
  · exact nm_lt_trans ((ris_snoc.1 hr).2 y hy) hlt
  · rw [List.mem_singleton.1 hy]; exact hlt
theorem ris_at {l : Row} (hr : Ris l) {i j : Nat} (hij : i < j) (hj : j < l.length) : l[i] < l[j] := (List.pairwise_iff_getElem.1 hr) i j (by omega) hj hij
theorem vl_ext {a b : Vl} : a = b ↔ a.kind = b.kind ∧ a.text = b.text ∧ a.pairs = b.pairs ∧ a.items = b.items ∧ a.px = b.px ∧ a.py = b.py := by
  obtain ⟨k, t, ps, is, x, y⟩ := a
  obtain ⟨k', t', ps', is', x', y'⟩ := b
  simp
open Classical in
noncomputable def risB (l : Row) : Bool := decide (Ris l)
open Classical in
theorem risB_yes {l : Row} (h : Ris l) : risB l = true := by unfold risB; exact decide_eq_true h
open Classical in
theorem risB_no {l : Row} (h : ¬ Ris l) : risB l = false := by unfold risB; exact decide_eq_false h
open Classical in
theorem risB_iff {l : Row} : risB l = true ↔ Ris l := by unfold risB; exact decide_eq_true_iff
def RtP (ps : List (Nm × Nm)) : Prop := Fits (ps.map (·.1)) ∧ Ris (ps.map (·.1)) ∧ Fits (ps.map (·.2))
open Classical in
noncomputable def rpB (ps : List (Nm × Nm)) : Bool := decide (RtP ps)
open Classical in
theorem rpB_yes {ps : List (Nm × Nm)} (h : RtP ps) : rpB ps = true := by unfold rpB; exact decide_eq_true h
open Classical in
theorem rpB_no {ps : List (Nm × Nm)} (h : ¬ RtP ps) : rpB ps = false := by unfold rpB; exact decide_eq_false h
open Classical in
theorem rpB_iff {ps : List (Nm × Nm)} : rpB ps = true ↔ RtP ps := by unfold rpB; exact decide_eq_true_iff
theorem xor8 (a b : BitVec 8) : bits BinOp.xor IntKind.u8 (a.toNat : Int) (b.toNat : Int) = ((a ^^^ b).toNat : Int) := by
  rw [u8_xor_nat _ _ a.isLt b.isLt, BitVec.toNat_xor]
/-- a value that can come in -/
structure Came (m : Vl) : Prop where
  pairs : m.pairs.length ≤ 140737488351232
  items : m.items.length ≤ 140737488351232
  text : m.text.length ≤ 140737488351232
  names : ∀ x ∈ m.pairs.map (·.1), x.length ≤ 140737488351232
  values : ∀ x ∈ m.pairs.map (·.2), x.length ≤ 140737488351232
  texts : ∀ x ∈ m.items, x.length ≤ 140737488351232
  bk : -9223372036854775808 ≤ m.kind ∧ m.kind ≤ 9223372036854775807
  bx : -9223372036854775808 ≤ m.px ∧ m.px ≤ 9223372036854775807
  bY : -9223372036854775808 ≤ m.py ∧ m.py ≤ 9223372036854775807
theorem right1 (t : Nm) (ps : List (Nm × Nm)) (is : List Nm) (x y : Int) : rightB ⟨1, t, ps, is, x, y⟩ = (decide (t.length ≤ 4096) && decide ((⟨0, [], ps, is, x, y⟩ : Vl) = zeroV)) := by
  rw [Bool.eq_iff_iff, rightB_iff, Bool.and_eq_true, decide_eq_true_iff, decide_eq_true_iff, vl_ext]
  constructor
  · intro h
    exact ⟨h.k1 rfl, rfl, rfl, h.pairs (by dsimp only; decide), h.items (by dsimp only; decide) (by dsimp only; decide), h.point (by dsimp only; decide)⟩
  · rintro ⟨h, -, -, hp, hi, hx, hy⟩
    simp only [zeroV] at hp hi hx hy
    subst hp hi hx hy
    exact rtv1 h
theorem right2 (t : Nm) (ps : List (Nm × Nm)) (is : List Nm) (x y : Int) : rightB ⟨2, t, ps, is, x, y⟩ = (rpB ps && decide ((⟨0, t, [], is, x, y⟩ : Vl) = zeroV)) := by
  rw [Bool.eq_iff_iff, rightB_iff, Bool.and_eq_true, rpB_iff, decide_eq_true_iff, vl_ext]
  constructor
  · intro h
    exact ⟨h.k2 rfl, rfl, h.text (by dsimp only; decide), rfl, h.items (by dsimp only; decide) (by dsimp only; decide), h.point (by dsimp only; decide)⟩
  · rintro ⟨h, -, ht, -, hi, hx, hy⟩
    simp only [zeroV] at ht hi hx hy
    subst ht hi hx hy
    exact rtv2 h
theorem right3 (t : Nm) (ps : List (Nm × Nm)) (is : List Nm) (x y : Int) : rightB ⟨3, t, ps, is, x, y⟩ = (fitsB is && decide ((⟨0, t, ps, [], x, y⟩ : Vl) = zeroV)) := by
  rw [Bool.eq_iff_iff, rightB_iff, Bool.and_eq_true, fitsB_iff, decide_eq_true_iff, vl_ext]
  constructor
  · intro h
    exact ⟨h.k3 rfl, rfl, h.text (by dsimp only; decide), h.pairs (by dsimp only; decide), rfl, h.point (by dsimp only; decide)⟩
  · rintro ⟨h, -, ht, hp, -, hx, hy⟩
    simp only [zeroV] at ht hp hx hy
    subst ht hp hx hy
    exact rtv3 h
theorem right4 (t : Nm) (ps : List (Nm × Nm)) (is : List Nm) (x y : Int) : rightB ⟨4, t, ps, is, x, y⟩ = (risB is && (fitsB is && decide ((⟨0, t, ps, [], x, y⟩ : Vl) = zeroV))) := by
  rw [Bool.eq_iff_iff, rightB_iff, Bool.and_eq_true, Bool.and_eq_true, fitsB_iff, risB_iff, decide_eq_true_iff, vl_ext]
  constructor
  · intro h
    exact ⟨(h.k4 rfl).2, (h.k4 rfl).1, rfl, h.text (by dsimp only; decide), h.pairs (by dsimp only; decide), rfl, h.point (by dsimp only; decide)⟩
  · rintro ⟨hr, h, -, ht, hp, -, hx, hy⟩
    simp only [zeroV] at ht hp hx hy
    subst ht hp hx hy
    exact rtv4 ⟨h, hr⟩
theorem right5 (t : Nm) (ps : List (Nm × Nm)) (is : List Nm) (x y : Int) : rightB ⟨5, t, ps, is, x, y⟩ = (rtB x y && decide ((⟨0, t, ps, is, 0, 0⟩ : Vl) = zeroV)) := by
  rw [Bool.eq_iff_iff, rightB_iff, Bool.and_eq_true, rtB_iff, decide_eq_true_iff, vl_ext]
  constructor
  · intro h
    exact ⟨h.k5 rfl, rfl, h.text (by dsimp only; decide), h.pairs (by dsimp only; decide), h.items (by dsimp only; decide) (by dsimp only; decide), rfl, rfl⟩
  · rintro ⟨h, -, ht, hp, hi, -, -⟩
    simp only [zeroV] at ht hp hi
    subst ht hp hi
    exact rtv5 h
theorem right0 {m : Vl} (h1 : m.kind ≠ 1) (h2 : m.kind ≠ 2) (h3 : m.kind ≠ 3) (h4 : m.kind ≠ 4) (h5 : m.kind ≠ 5) : rightB m = false := rightB_not.2 fun h => by
  have := h.k
  omega

end Go.Proofs.YtppgifaegnmciaaDoor
