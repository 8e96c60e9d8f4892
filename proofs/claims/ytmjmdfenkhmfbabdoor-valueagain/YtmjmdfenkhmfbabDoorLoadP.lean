/- Reading values: plain mathematics. -/
import Derived.Test.YtmjmdfenkhmfbabDoorVModel
import Derived.Test.YtmjmdfenkhmfbabDoorBurst
namespace Go.Proofs.YtmjmdfenkhmfbabDoor

/-- the number of four bytes -/
def sgn (a b c d : UInt8) : Int := if num2 a b * 65536 + num2 c d ≥ 2147483648 then ((num2 a b * 65536 + num2 c d : Nat) : Int) - 4294967296 else ((num2 a b * 65536 + num2 c d : Nat) : Int)
theorem sgn_part {n : Int} (h : -1048576 ≤ n ∧ n ≤ 1048576) : ∃ a b c d, part n = [a, b, c, d] ∧ sgn a b c d = n := by
  refine ⟨_, _, _, _, rfl, ?_⟩
  unfold sgn
  rw [two_num (by omega), two_num (by omega)]
  split <;> omega
/-- the texts that are read, if they are there -/
def lst (o : Option (List Nm × Nm)) : List Nm := match o with
  | some p => p.1
  | none => []
/-- the value that bytes (but the sum) may say -/
def readV (s : Nm) : Vl := match s with
  | a :: b :: c :: r =>
    if a = 1 then ⟨1, (lst (rdT (b :: c :: r) 1)).headD [], [], [], 0, 0⟩
    else if a = 2 then ⟨2, [], if 256 < num2 b c then [] else unflat (lst (rdT r (2 * num2 b c))), [], 0, 0⟩
    else if a = 3 ∨ a = 4 then ⟨a.toNat, [], [], if 256 < num2 b c then [] else lst (rdT r (num2 b c)), 0, 0⟩
    else if a = 5 then (match r with
      | [d, e, f, g, h, i] => ⟨5, [], [], [], sgn b c d e, sgn f g h i⟩
      | _ => ⟨5, [], [], [], 0, 0⟩)
    else ⟨a.toNat, [], [], [], 0, 0⟩
  | _ => zeroV
theorem read_body {m : Vl} (h : RtV m) : readV (bodyV m) = m := by
  obtain ⟨k, t, p, i, x, y⟩ := m
  obtain ⟨q1, q2, q3, q5, kk, f1, f2, f3, f4, f5⟩ := h
  dsimp only at *
  unfold bodyV inner
  dsimp only
  by_cases c1 : k = 1
  · subst c1
    rw [if_pos rfl]
    have ht := f1 rfl
    have e := rdT_tx [t] [] (by simp; omega)
    rw [show ([t] : List Nm).flatMap tx ++ [] = tx t by simp] at e
    obtain ⟨rfl, rfl⟩ := q5 (by omega)
    rw [q2 (by omega), q3 (by omega) (by omega)]
    have e2 : tx t = UInt8.ofNat (t.length / 256) :: UInt8.ofNat (t.length % 256) :: t := rfl
    rw [e2] at e ⊢
    show (⟨1, (lst (rdT _ 1)).headD [], [], [], 0, 0⟩ : Vl) = _
    rw [show ([t] : List Nm).length = 1 from rfl] at e
    rw [e]
    rfl
  · rw [if_neg c1]
    by_cases c2 : k = 2
    · subst c2
      rw [if_pos rfl]
      obtain ⟨⟨a1, a2, a3⟩, _, ⟨a4, _, _⟩⟩ := f2 rfl
      simp only [List.length_map] at a2 a3
      have e := rdT_tx (flat p) [] (fun x hx => by have := flat_mem a1 a4 x hx; omega)
      rw [List.append_nil, flat_len] at e
      obtain ⟨rfl, rfl⟩ := q5 (by omega)
      rw [q1 (by omega), q3 (by omega) (by omega)]
      show (⟨2, [], if 256 < num2 (UInt8.ofNat (p.length / 256)) (UInt8.ofNat (p.length % 256)) then [] else unflat (lst (rdT ((flat p).flatMap tx) (2 * num2 (UInt8.ofNat (p.length / 256)) (UInt8.ofNat (p.length % 256))))), [], 0, 0⟩ : Vl) = _
      rw [two_num (by omega), if_neg (by omega), e]
      show (⟨2, [], unflat (flat p), [], 0, 0⟩ : Vl) = _
      rw [unflat_flat]
    · rw [if_neg c2]
      by_cases c5 : k = 5
      · subst c5
        rw [if_pos rfl]
        obtain ⟨a1, a2, a3, a4⟩ := f5 rfl
        obtain ⟨b, c, d, e, h1, h2⟩ := sgn_part ⟨a1, a2⟩
        obtain ⟨b', c', d', e', h3, h4⟩ := sgn_part ⟨a3, a4⟩
        rw [h1, h3, q1 (by omega), q2 (by omega), q3 (by omega) (by omega)]
        show (⟨5, [], [], [], sgn b c d e, sgn b' c' d' e'⟩ : Vl) = _
        rw [h2, h4]
      · rw [if_neg c5]
        obtain ⟨a1, a2, a3⟩ : Fits i := by
          rcases (show k = 3 ∨ k = 4 by omega) with c | c
          · exact f3 c
          · exact (f4 c).1
        have e := rdT_tx i [] (fun x hx => by have := a1 x hx; omega)
        rw [List.append_nil] at e
        obtain ⟨rfl, rfl⟩ := q5 c5
        rw [q1 c1, q2 c2]
        have key : ∀ z : UInt8, z = 3 ∨ z = 4 → readV (z :: (two i.length ++ i.flatMap tx)) = ⟨z.toNat, [], [], i, 0, 0⟩ := fun z hz => by
          have z1 : z ≠ 1 := by rcases hz with rfl | rfl <;> decide
          have z2 : z ≠ 2 := by rcases hz with rfl | rfl <;> decide
          show (if z = 1 then _ else if z = 2 then _ else if z = 3 ∨ z = 4 then (⟨z.toNat, [], [], if 256 < num2 (UInt8.ofNat (i.length / 256)) (UInt8.ofNat (i.length % 256)) then [] else lst (rdT (i.flatMap tx) (num2 (UInt8.ofNat (i.length / 256)) (UInt8.ofNat (i.length % 256)))), 0, 0⟩ : Vl) else _) = _
          rw [if_neg z1, if_neg z2, if_pos hz, two_num (by omega), if_neg (by omega), e]
          rfl
        rcases (show k = 3 ∨ k = 4 by omega) with rfl | rfl
        · exact key 3 (.inl rfl)
        · exact key 4 (.inr rfl)
theorem inner_len (m : Vl) : 2 ≤ (inner m).length := by
  unfold inner
  split
  · simp [tx, two]
  · split
    · simp [two]
    · split
      · simp [part, two]
      · simp [two]
theorem body_len (m : Vl) : 3 ≤ (bodyV m).length := by have := inner_len m; simp [bodyV]; omega
theorem dump_len (m : Vl) : (dumpV m).length = (bodyV m).length + 2 := by simp [dumpV, two_len]
theorem dump_take (m : Vl) : (dumpV m).take ((dumpV m).length - 2) = bodyV m := by
  rw [dump_len, Nat.add_sub_cancel]; unfold dumpV; rw [List.take_left]
theorem dump_drop (m : Vl) : (dumpV m).drop ((dumpV m).length - 2) = two (sumN (bodyV m)) := by
  rw [dump_len, Nat.add_sub_cancel]; unfold dumpV; rw [List.drop_left]
/-- is the sum right? -/
def sumOk (s : Nm) : Prop := s.drop (s.length - 2) = two (sumN (s.take (s.length - 2)))
theorem dump_ok (m : Vl) : sumOk (dumpV m) := by unfold sumOk; rw [dump_take, dump_drop]
open Classical in
/-- what Load tells -/
noncomputable def loadV (s : Nm) : Vl × Int :=
  if s.length < 3 then (zeroV, 100) else if ¬ sumOk s then (zeroV, 101) else if h : ∃ m, RtV m ∧ dumpV m = s then (Classical.choose h, 0) else (zeroV, 100)
theorem load_short {s : Nm} (h : s.length < 3) : loadV s = (zeroV, 100) := by unfold loadV; rw [if_pos h]
theorem load_sum {s : Nm} (h : ¬ s.length < 3) (k : ¬ sumOk s) : loadV s = (zeroV, 101) := by unfold loadV; rw [if_neg h, if_pos k]
theorem load_dump {m : Vl} (h : RtV m) : loadV (dumpV m) = (m, 0) := by
  have hx : ∃ m', RtV m' ∧ dumpV m' = dumpV m := ⟨m, h, rfl⟩
  unfold loadV
  rw [if_neg (by rw [dump_len]; have := body_len m; omega), if_neg (fun k => k (dump_ok m)), dif_pos hx]
  obtain ⟨h1, h2⟩ := Classical.choose_spec hx
  rw [dump_inj h1 h h2]
theorem load_none {s : Nm} (h : ¬ s.length < 3) (k : sumOk s) (hn : ¬ ∃ m, RtV m ∧ dumpV m = s) : loadV s = (zeroV, 100) := by
  unfold loadV
  rw [if_neg h, if_neg (fun q => q k), dif_neg hn]
/-- what the bytes may say is written again -/
theorem load_read {s : Nm} (hr : RtV (readV (s.take (s.length - 2)))) (hd : dumpV (readV (s.take (s.length - 2))) = s) : loadV s = (readV (s.take (s.length - 2)), 0) := by
  have := load_dump hr
  rwa [hd] at this
theorem load_other {s : Nm} (h : ¬ s.length < 3) (k : sumOk s) (hr : ¬ (RtV (readV (s.take (s.length - 2))) ∧ dumpV (readV (s.take (s.length - 2))) = s)) : loadV s = (zeroV, 100) := by
  refine load_none h k fun ⟨m, hm, e⟩ => hr ?_
  subst e
  rw [dump_take, read_body hm]
  exact ⟨hm, rfl⟩
/-- a text with its sum behind it has the sum 0 -/
def hiB (s : BitVec 16) : BitVec 8 := (s >>> 8).setWidth 8
def loB (s : BitVec 16) : BitVec 8 := s.setWidth 8
theorem hiB_xor (s t : BitVec 16) : hiB (s ^^^ t) = hiB s ^^^ hiB t := by
  apply BitVec.eq_of_getLsbD_eq
  intro i hi
  simp [hiB, hi]
theorem loB_xor (s t : BitVec 16) : loB (s ^^^ t) = loB s ^^^ loB t := by
  apply BitVec.eq_of_getLsbD_eq
  intro i hi
  simp [loB, hi]
theorem ends_zero (s : BitVec 16) : Crc.step (Crc.step s (hiB s)) (loB s) = 0#16 := by
  refine Crc.lin_ext (fun s => Crc.step (Crc.step s (hiB s)) (loB s)) (fun _ => 0#16) (fun a b => ?_) (fun a b => by simp) (by decide +kernel) (by decide +kernel) s
  show Crc.step (Crc.step (a ^^^ b) (hiB (a ^^^ b))) (loB (a ^^^ b)) = _
  rw [hiB_xor, loB_xor, Crc.step_xor, Crc.step_xor]
theorem step_two (c : BitVec 16) : Crc.more c [(UInt8.ofNat (c.toNat / 256)).toBitVec, (UInt8.ofNat (c.toNat % 256)).toBitVec] = 0#16 := by
  have h := c.isLt
  have e1 : (UInt8.ofNat (c.toNat / 256)).toBitVec = hiB c := by
    apply BitVec.eq_of_toNat_eq
    show (UInt8.ofNat (c.toNat / 256)).toNat = _
    rw [UInt8.toNat_ofNat']
    simp [hiB, Nat.shiftRight_eq_div_pow]
  have e2 : (UInt8.ofNat (c.toNat % 256)).toBitVec = loB c := by
    apply BitVec.eq_of_toNat_eq
    show (UInt8.ofNat (c.toNat % 256)).toNat = _
    rw [UInt8.toNat_ofNat']
    simp [loB]
  rw [e1, e2]
  exact ends_zero c
theorem sum_two (l : Nm) : sumN (l ++ two (sumN l)) = 0 := by
  unfold sumN two
  rw [List.map_append, Crc.more_append]
  have := step_two (Crc.more 0#16 (l.map UInt8.toBitVec))
  rw [show ([UInt8.ofNat ((Crc.more 0#16 (l.map UInt8.toBitVec)).toNat / 256), UInt8.ofNat ((Crc.more 0#16 (l.map UInt8.toBitVec)).toNat % 256)].map UInt8.toBitVec) = [(UInt8.ofNat ((Crc.more 0#16 (l.map UInt8.toBitVec)).toNat / 256)).toBitVec, (UInt8.ofNat ((Crc.more 0#16 (l.map UInt8.toBitVec)).toNat % 256)).toBitVec] from rfl, this]
  rfl
theorem ok_zero {s : Nm} (k : sumOk s) : sumN s = 0 := by
  have := sum_two (s.take (s.length - 2))
  rw [← k, List.take_append_drop] at this
  exact this
/-- bytes of another sum than 0 are refused for it -/
theorem load_turned {s : Nm} (h : 3 ≤ s.length) (k : sumN s ≠ 0) : loadV s = (zeroV, 101) := load_sum (by omega) fun q => k (ok_zero q)
theorem sum_dump (m : Vl) : sumN (dumpV m) = 0 := ok_zero (dump_ok m)

end Go.Proofs.YtmjmdfenkhmfbabDoor
