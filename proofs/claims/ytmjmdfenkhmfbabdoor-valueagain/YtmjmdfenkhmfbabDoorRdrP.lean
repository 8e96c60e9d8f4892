/- The program's reader, which takes what comes: plain mathematics. -/
import Derived.Test.YtmjmdfenkhmfbabDoorLoadP
namespace Go.Proofs.YtmjmdfenkhmfbabDoor

/-- the number of bytes, the highest first -/
def numN (l : Nm) : Nat := l.foldl (fun n b => n * 256 + b.toNat) 0
theorem numN_snoc (l : Nm) (b : UInt8) : numN (l ++ [b]) = numN l * 256 + b.toNat := by simp [numN, List.foldl_append]
theorem numN_aux : ∀ (l : Nm) (n k : Nat), n < 256 ^ k → l.foldl (fun n b => n * 256 + b.toNat) n < 256 ^ (k + l.length)
  | [], n, k, h => h
  | b :: l, n, k, h => by
    have hb := b.toNat_lt
    have := numN_aux l (n * 256 + b.toNat) (k + 1) (by rw [Nat.pow_succ]; omega)
    rw [List.foldl_cons, List.length_cons, show k + (l.length + 1) = k + 1 + l.length by omega]
    exact this
theorem numN_lt (l : Nm) : numN l < 256 ^ l.length := by
  have := numN_aux l 0 0 (by decide)
  rwa [Nat.zero_add] at this
theorem numN_le (l : Nm) (k : Nat) (h : l.length ≤ k) : numN l < 256 ^ k := Nat.lt_of_lt_of_le (numN_lt l) (Nat.pow_le_pow_right (by decide) h)
theorem numN_1 (r : Nm) : numN (r.take 1) < 256 := numN_le _ 1 (by simp; omega)
theorem numN_2 (r : Nm) : numN (r.take 2) < 65536 := numN_le _ 2 (by simp; omega)
theorem numN_4 (r : Nm) : numN (r.take 4) < 4294967296 := numN_le _ 4 (by simp; omega)
theorem numN_two {n : Nat} (h : n < 65536) : numN (two n) = n := by
  show (0 * 256 + (UInt8.ofNat (n / 256)).toNat) * 256 + (UInt8.ofNat (n % 256)).toNat = n
  rw [UInt8.toNat_ofNat', UInt8.toNat_ofNat']
  omega
theorem numN_four (a b c d : UInt8) : numN [a, b, c, d] = num2 a b * 65536 + num2 c d := by
  show (((0 * 256 + a.toNat) * 256 + b.toNat) * 256 + c.toNat) * 256 + d.toNat = _
  unfold num2
  omega
theorem numN_pair (a b : UInt8) : numN [a, b] = num2 a b := by
  show (0 * 256 + a.toNat) * 256 + b.toNat = _
  unfold num2
  omega
/-- a text, a pair, so many things -/
def tkT (r : Nm) : Nm × Nm := ((r.drop 2).take (numN (r.take 2)), (r.drop 2).drop (numN (r.take 2)))
def tkP (r : Nm) : (Nm × Nm) × Nm := (((tkT r).1, (tkT (tkT r).2).1), (tkT (tkT r).2).2)
def rows {α : Type} (f : Nm → α × Nm) : Nat → Nm → List α × Nm
  | 0, r => ([], r)
  | n + 1, r => ((rows f n r).1 ++ [(f (rows f n r).2).1], (f (rows f n r).2).2)
theorem rows_len {α : Type} (f : Nm → α × Nm) : ∀ n r, (rows f n r).1.length = n
  | 0, r => rfl
  | n + 1, r => by show ((rows f n r).1 ++ [_]).length = _; rw [List.length_append, rows_len f n r]; rfl
theorem tkT_len (r : Nm) : (tkT r).1.length < 65536 := by
  have := numN_2 r
  show ((r.drop 2).take (numN (r.take 2))).length < 65536
  rw [List.length_take]; omega
theorem tkT_rest (r : Nm) : (tkT r).2.length ≤ r.length := by
  show ((r.drop 2).drop (numN (r.take 2))).length ≤ _
  simp
theorem rows_rest {α : Type} (f : Nm → α × Nm) (h : ∀ r, (f r).2.length ≤ r.length) : ∀ n r, (rows f n r).2.length ≤ r.length
  | 0, _ => Nat.le_refl _
  | n + 1, r => Nat.le_trans (h _) (rows_rest f h n r)
theorem tkP_rest (r : Nm) : (tkP r).2.length ≤ r.length := Nat.le_trans (tkT_rest _) (tkT_rest _)
theorem rows_mem {α : Type} (f : Nm → α × Nm) (p : α → Prop) (h : ∀ r, p (f r).1) : ∀ n r, ∀ x ∈ (rows f n r).1, p x
  | 0, r, x, hx => by cases hx
  | n + 1, r, x, hx => by
    rcases List.mem_append.1 hx with hx | hx
    · exact rows_mem f p h n r x hx
    · rw [List.mem_singleton.1 hx]; exact h _
def many (r : Nm) : Nat := min (numN (r.take 2)) 256
/-- a number of 32 bits, the highest one the sign -/
def sg (n : Nat) : Int := if 2147483648 ≤ n then (n : Int) - 4294967296 else (n : Int)
/-- the value that is read -/
def rdrV (s : Nm) : Vl :=
  if numN (s.take 1) = 1 then ⟨1, (tkT (s.drop 1)).1, [], [], 0, 0⟩
  else if numN (s.take 1) = 2 then ⟨2, [], (rows tkP (many (s.drop 1)) ((s.drop 1).drop 2)).1, [], 0, 0⟩
  else if numN (s.take 1) = 4 then ⟨4, [], [], (rows tkT (many (s.drop 1)) ((s.drop 1).drop 2)).1, 0, 0⟩
  else if numN (s.take 1) = 3 then ⟨3, [], [], (rows tkT (many (s.drop 1)) ((s.drop 1).drop 2)).1, 0, 0⟩
  else if numN (s.take 1) = 5 then ⟨5, [], [], [], sg (numN ((s.drop 1).take 4)), sg (numN (((s.drop 1).drop 4).take 4))⟩
  else ⟨numN (s.take 1), [], [], [], 0, 0⟩
theorem tkT_tx (x r : Nm) (h : x.length < 65536) : tkT (tx x ++ r) = (x, r) := by
  have e1 : (tx x ++ r).take 2 = two x.length := rfl
  have e2 : (tx x ++ r).drop 2 = x ++ r := rfl
  unfold tkT
  rw [e1, e2, numN_two h, List.take_left, List.drop_left]
theorem rows_tx (l : List Nm) (r : Nm) (h : ∀ x ∈ l, x.length < 65536) : ∀ k, k ≤ l.length → rows tkT k (l.flatMap tx ++ r) = (l.take k, (l.drop k).flatMap tx ++ r)
  | 0, _ => by simp [rows]
  | k + 1, hk => by
    have ih := rows_tx l r h k (by omega)
    have hk' : k < l.length := by omega
    show ((rows tkT k _).1 ++ [(tkT (rows tkT k _).2).1], (tkT (rows tkT k _).2).2) = _
    rw [ih]
    have e : (l.drop k).flatMap tx ++ r = tx l[k] ++ ((l.drop (k + 1)).flatMap tx ++ r) := by
      rw [List.drop_eq_getElem_cons hk', List.flatMap_cons, List.append_assoc]
    dsimp only
    rw [e, tkT_tx _ _ (h _ (List.getElem_mem hk')), List.take_succ_eq_append_getElem hk']
theorem rows_txp (l : List (Nm × Nm)) (r : Nm) (h1 : ∀ x ∈ l.map (·.1), x.length < 65536) (h2 : ∀ x ∈ l.map (·.2), x.length < 65536) : ∀ k, k ≤ l.length → rows tkP k ((flat l).flatMap tx ++ r) = (l.take k, (flat (l.drop k)).flatMap tx ++ r)
  | 0, _ => by simp [rows]
  | k + 1, hk => by
    have ih := rows_txp l r h1 h2 k (by omega)
    have hk' : k < l.length := by omega
    show ((rows tkP k _).1 ++ [(tkP (rows tkP k _).2).1], (tkP (rows tkP k _).2).2) = _
    rw [ih]
    have e : (flat (l.drop k)).flatMap tx ++ r = tx l[k].1 ++ (tx l[k].2 ++ ((flat (l.drop (k + 1))).flatMap tx ++ r)) := by
      rw [List.drop_eq_getElem_cons hk']
      show (l[k].1 :: l[k].2 :: flat (l.drop (k + 1))).flatMap tx ++ r = _
      rw [List.flatMap_cons, List.flatMap_cons, List.append_assoc, List.append_assoc]
    dsimp only
    unfold tkP
    rw [e, tkT_tx _ _ (h1 _ (List.mem_map_of_mem (List.getElem_mem hk')))]
    dsimp only
    rw [tkT_tx _ _ (h2 _ (List.mem_map_of_mem (List.getElem_mem hk'))), List.take_succ_eq_append_getElem hk']
theorem sg_part {n : Int} (h : -1048576 ≤ n ∧ n ≤ 1048576) : sg (numN (part n)) = n := by
  obtain ⟨a, b, c, d, e1, e2⟩ := sgn_part h
  rw [e1, numN_four, ← e2]
  rfl
/-- what was written is read -/
theorem rdr_body {m : Vl} (h : RtV m) : rdrV (bodyV m) = m := by
  obtain ⟨k, t, p, i, x, y⟩ := m
  obtain ⟨q1, q2, q3, q5, kk, f1, f2, f3, f4, f5⟩ := h
  dsimp only at *
  have hk : numN ((bodyV ⟨k, t, p, i, x, y⟩).take 1) = k.toNat := by
    show 0 * 256 + (UInt8.ofNat k.toNat).toNat = _
    rw [UInt8.toNat_ofNat']; omega
  have hd : (bodyV ⟨k, t, p, i, x, y⟩).drop 1 = inner ⟨k, t, p, i, x, y⟩ := rfl
  unfold rdrV
  rw [hk, hd]
  unfold inner
  dsimp only
  by_cases c1 : k = 1
  · subst c1
    rw [if_pos (by decide), if_pos rfl]
    obtain ⟨rfl, rfl⟩ := q5 (by omega)
    have := f1 rfl
    have e := tkT_tx t [] (by omega)
    rw [List.append_nil] at e
    rw [e, q2 (by omega), q3 (by omega) (by omega)]
  · rw [if_neg (by omega), if_neg c1]
    by_cases c2 : k = 2
    · subst c2
      rw [if_pos (by decide), if_pos rfl]
      obtain ⟨⟨a1, a2, a3⟩, _, ⟨a4, _, _⟩⟩ := f2 rfl
      simp only [List.length_map] at a2 a3
      have e0 : many (two p.length ++ (flat p).flatMap tx) = p.length := by
        show min (numN (two p.length)) 256 = _
        rw [numN_two (by omega)]; omega
      have e := rows_txp p [] (fun z hz => by have := a1 z hz; omega) (fun z hz => by have := a4 z hz; omega) p.length (Nat.le_refl _)
      rw [List.append_nil, List.take_length] at e
      obtain ⟨rfl, rfl⟩ := q5 (by omega)
      rw [e0, show (two p.length ++ (flat p).flatMap tx).drop 2 = (flat p).flatMap tx from rfl, e, q1 (by omega), q3 (by omega) (by omega)]
    · rw [if_neg (by omega), if_neg c2]
      by_cases c5 : k = 5
      · subst c5
        rw [if_neg (by decide), if_neg (by decide), if_pos (by decide), if_pos rfl]
        obtain ⟨a1, a2, a3, a4⟩ := f5 rfl
        rw [show (part x ++ part y).take 4 = part x from rfl, show ((part x ++ part y).drop 4).take 4 = part y from rfl, sg_part ⟨a1, a2⟩, sg_part ⟨a3, a4⟩, q1 (by omega), q2 (by omega), q3 (by omega) (by omega)]
      · rw [if_neg (show ¬ k.toNat = 5 by omega), if_neg c5]
        obtain ⟨a1, a2, a3⟩ : Fits i := by
          rcases (show k = 3 ∨ k = 4 by omega) with c | c
          · exact f3 c
          · exact (f4 c).1
        have e0 : many (two i.length ++ i.flatMap tx) = i.length := by
          show min (numN (two i.length)) 256 = _
          rw [numN_two (by omega)]; omega
        have e := rows_tx i [] (fun z hz => by have := a1 z hz; omega) i.length (Nat.le_refl _)
        rw [List.append_nil, List.take_length] at e
        obtain ⟨rfl, rfl⟩ := q5 c5
        rw [e0, show (two i.length ++ i.flatMap tx).drop 2 = i.flatMap tx from rfl, e, q1 c1, q2 c2]
        rcases (show k = 3 ∨ k = 4 by omega) with rfl | rfl <;> rfl
/-- how great it can be -/
theorem rdr_small (s : Nm) : (rdrV s).pairs.length ≤ 256 ∧ (rdrV s).items.length ≤ 256 ∧ (rdrV s).text.length < 65536 ∧ (∀ x ∈ (rdrV s).pairs, x.1.length < 65536 ∧ x.2.length < 65536) ∧ (∀ x ∈ (rdrV s).items, x.length < 65536) ∧ (0 ≤ (rdrV s).kind ∧ (rdrV s).kind < 256) ∧ (-2147483648 ≤ (rdrV s).px ∧ (rdrV s).px < 2147483648) ∧ (-2147483648 ≤ (rdrV s).py ∧ (rdrV s).py < 2147483648) := by
  have hsg : ∀ r : Nm, -2147483648 ≤ sg (numN (r.take 4)) ∧ sg (numN (r.take 4)) < 2147483648 := fun r => by
    have := numN_4 r
    unfold sg
    split <;> omega
  have h1 := numN_1 s
  have hm : ∀ r, many r ≤ 256 := fun r => Nat.min_le_right _ _
  have hT := fun n r => rows_mem tkT (fun x => x.length < 65536) tkT_len n r
  have hP := fun n r => rows_mem tkP (fun x => x.1.length < 65536 ∧ x.2.length < 65536) (fun r => ⟨tkT_len _, tkT_len _⟩) n r
  unfold rdrV
  have nP : ∀ x ∈ ([] : List (Nm × Nm)), x.1.length < 65536 ∧ x.2.length < 65536 := fun x hx => by cases hx
  have nT : ∀ x ∈ ([] : List Nm), x.length < 65536 := fun x hx => by cases hx
  have z0 : ([] : List (Nm × Nm)).length ≤ 256 := by simp
  have z1 : ([] : List Nm).length ≤ 256 := by simp
  have z2 : ([] : Nm).length < 65536 := by simp
  have zp : (-2147483648 : Int) ≤ 0 ∧ (0 : Int) < 2147483648 := by decide
  have lT : ∀ r q, (rows tkT (many r) q).1.length ≤ 256 := fun r q => by rw [rows_len]; exact hm _
  have lP : ∀ r q, (rows tkP (many r) q).1.length ≤ 256 := fun r q => by rw [rows_len]; exact hm _
  split
  · exact ⟨z0, z1, tkT_len _, nP, nT, (by decide : (0 : Int) ≤ 1 ∧ (1 : Int) < 256), zp, zp⟩
  · split
    · exact ⟨lP _ _, z1, z2, hP _ _, nT, (by decide : (0 : Int) ≤ 2 ∧ (2 : Int) < 256), zp, zp⟩
    · split
      · exact ⟨z0, lT _ _, z2, nP, hT _ _, (by decide : (0 : Int) ≤ 4 ∧ (4 : Int) < 256), zp, zp⟩
      · split
        · exact ⟨z0, lT _ _, z2, nP, hT _ _, (by decide : (0 : Int) ≤ 3 ∧ (3 : Int) < 256), zp, zp⟩
        · split
          · exact ⟨z0, z1, z2, nP, nT, (by decide : (0 : Int) ≤ 5 ∧ (5 : Int) < 256), hsg _, hsg _⟩
          · exact ⟨z0, z1, z2, nP, nT, (by omega : (0 : Int) ≤ (numN (s.take 1) : Int) ∧ (numN (s.take 1) : Int) < 256), zp, zp⟩
/-- what is read, written again, is what is there, or it is no value's -/
theorem load_rdr {s : Nm} (hr : RtV (rdrV (s.take (s.length - 2)))) (hd : dumpV (rdrV (s.take (s.length - 2))) = s) : loadV s = (rdrV (s.take (s.length - 2)), 0) := by
  have := load_dump hr
  rwa [hd] at this
theorem load_nor {s : Nm} (h : ¬ s.length < 3) (k : sumOk s) (hr : ¬ (RtV (rdrV (s.take (s.length - 2))) ∧ dumpV (rdrV (s.take (s.length - 2))) = s)) : loadV s = (zeroV, 100) := by
  refine load_none h k fun ⟨m, hm, e⟩ => hr ?_
  subst e
  rw [dump_take, rdr_body hm]
  exact ⟨hm, rfl⟩
theorem sumOk_num {s : Nm} (h : 3 ≤ s.length) : sumOk s ↔ numN (s.drop (s.length - 2)) = sumN (s.take (s.length - 2)) := by
  have hl : (s.drop (s.length - 2)).length = 2 := by simp; omega
  match hx : s.drop (s.length - 2), hl with
  | [a, b], _ =>
    unfold sumOk
    rw [hx, numN_pair]
    constructor
    · intro e
      have := numN_two (sumN_lt (s.take (s.length - 2)))
      rw [← e, numN_pair] at this
      exact this
    · intro e
      rw [← e, num_two]

end Go.Proofs.YtmjmdfenkhmfbabDoor
