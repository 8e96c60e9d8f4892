/- Values: plain mathematics. -/
import Derived.Test.YtmjmdfenkhmfbabDoorModel
import Derived.Test.YtmjmdfenkhmfbabDoorCrcBits
namespace Go.Proofs.YtmjmdfenkhmfbabDoor

/-- the sum of bytes -/
def sumN (n : Nm) : Nat := (Crc.more 0#16 (n.map UInt8.toBitVec)).toNat
theorem sumN_lt (n : Nm) : sumN n < 65536 := (Crc.more 0#16 (n.map UInt8.toBitVec)).isLt
/-- a value -/
structure Vl where
  kind : Int
  text : Nm
  pairs : List (Nm × Nm)
  items : List Nm
  px : Int
  py : Int
deriving DecidableEq
def zeroV : Vl := ⟨0, [], [], [], 0, 0⟩
/-- not too many, nor none, and none too long -/
def Fits (l : List Nm) : Prop := (∀ x ∈ l, x.length ≤ 1024) ∧ 1 ≤ l.length ∧ l.length ≤ 256
def rtP (x y : Int) : Prop := -1048576 ≤ x ∧ x ≤ 1048576 ∧ -1048576 ≤ y ∧ y ≤ 1048576
/-- which values may be -/
structure RtV (m : Vl) : Prop where
  text : m.kind ≠ 1 → m.text = []
  pairs : m.kind ≠ 2 → m.pairs = []
  items : m.kind ≠ 3 → m.kind ≠ 4 → m.items = []
  point : m.kind ≠ 5 → m.px = 0 ∧ m.py = 0
  k : 1 ≤ m.kind ∧ m.kind ≤ 5
  k1 : m.kind = 1 → m.text.length ≤ 4096
  k2 : m.kind = 2 → Fits (m.pairs.map (·.1)) ∧ Ris (m.pairs.map (·.1)) ∧ Fits (m.pairs.map (·.2))
  k3 : m.kind = 3 → Fits m.items
  k4 : m.kind = 4 → Fits m.items ∧ Ris m.items
  k5 : m.kind = 5 → rtP m.px m.py
open Classical in
noncomputable def rightB (m : Vl) : Bool := decide (RtV m)
open Classical in
theorem rightB_iff {m : Vl} : rightB m = true ↔ RtV m := by unfold rightB; exact decide_eq_true_iff
open Classical in
theorem rightB_not {m : Vl} : rightB m = false ↔ ¬ RtV m := by unfold rightB; exact decide_eq_false_iff_not
/-- a number in two bytes; a text; a point's part -/
def two (n : Nat) : Nm := [UInt8.ofNat (n / 256), UInt8.ofNat (n % 256)]
def tx (s : Nm) : Nm := two s.length ++ s
def part (n : Int) : Nm := two ((n % 4294967296).toNat / 65536) ++ two ((n % 4294967296).toNat % 65536)
def flat (l : List (Nm × Nm)) : List Nm := l.flatMap fun p => [p.1, p.2]
def inner (m : Vl) : Nm :=
  if m.kind = 1 then tx m.text else if m.kind = 2 then two m.pairs.length ++ (flat m.pairs).flatMap tx else if m.kind = 5 then part m.px ++ part m.py else two m.items.length ++ m.items.flatMap tx
def bodyV (m : Vl) : Nm := UInt8.ofNat m.kind.toNat :: inner m
def dumpV (m : Vl) : Nm := bodyV m ++ two (sumN (bodyV m))
/-- two bytes' number -/
def num2 (a b : UInt8) : Nat := a.toNat * 256 + b.toNat
theorem two_num {n : Nat} (h : n < 65536) : num2 (UInt8.ofNat (n / 256)) (UInt8.ofNat (n % 256)) = n := by
  unfold num2
  rw [UInt8.toNat_ofNat', UInt8.toNat_ofNat']
  omega
theorem two_len (n : Nat) : (two n).length = 2 := rfl
theorem two_inj {a b : Nat} (ha : a < 65536) (hb : b < 65536) (h : two a = two b) : a = b := by
  unfold two at h
  injection h with h1 h2
  injection h2 with h2 _
  rw [← two_num ha, ← two_num hb, h1, h2]
theorem num_two (a b : UInt8) : two (num2 a b) = [a, b] := by
  have ha := a.toNat_lt
  have hb := b.toNat_lt
  unfold two num2
  rw [show (a.toNat * 256 + b.toNat) / 256 = a.toNat by omega, show (a.toNat * 256 + b.toNat) % 256 = b.toNat by omega, UInt8.ofNat_toNat, UInt8.ofNat_toNat]
theorem num2_lt (a b : UInt8) : num2 a b < 65536 := by
  have ha := a.toNat_lt
  have hb := b.toNat_lt
  unfold num2
  omega
/-- so many texts are read -/
def rdT : Nm → Nat → Option (List Nm × Nm)
  | r, 0 => some ([], r)
  | a :: b :: r, n + 1 => if r.length < num2 a b then none else (rdT (r.drop (num2 a b)) n).map fun p => (r.take (num2 a b) :: p.1, p.2)
  | _, _ + 1 => none
theorem rdT_tx : ∀ (l : List Nm) (r : Nm), (∀ x ∈ l, x.length < 65536) → rdT (l.flatMap tx ++ r) l.length = some (l, r)
  | [], r, _ => rfl
  | x :: l, r, h => by
    have hx := h x (by simp)
    show rdT ((tx x ++ l.flatMap tx) ++ r) (l.length + 1) = _
    rw [show (tx x ++ l.flatMap tx) ++ r = UInt8.ofNat (x.length / 256) :: UInt8.ofNat (x.length % 256) :: (x ++ (l.flatMap tx ++ r)) by simp [tx, two]]
    unfold rdT
    rw [two_num hx, if_neg (by simp), List.drop_left, List.take_left, rdT_tx l r (fun y hy => h y (by simp [hy]))]
    rfl
theorem rdT_len : ∀ (n : Nat) (r : Nm) (l : List Nm) (q : Nm), rdT r n = some (l, q) → l.length = n ∧ r = l.flatMap tx ++ q ∧ ∀ x ∈ l, x.length < 65536
  | 0, r, l, q, h => by
    simp [rdT] at h
    obtain ⟨rfl, rfl⟩ := h
    exact ⟨rfl, rfl, by simp⟩
  | n + 1, [], l, q, h => by simp [rdT] at h
  | n + 1, [_], l, q, h => by simp [rdT] at h
  | n + 1, a :: b :: r, l, q, h => by
    unfold rdT at h
    split at h
    · simp at h
    · rename_i hn
      obtain ⟨p, hp, he⟩ := Option.map_eq_some_iff.1 h
      obtain ⟨l', q'⟩ := p
      obtain ⟨h1, h2, h3⟩ := rdT_len n _ l' q' hp
      injection he with e1 e2
      subst e1 e2
      have hk : (r.take (num2 a b)).length = num2 a b := by simp; omega
      refine ⟨by simp [h1], ?_, fun x hx => ?_⟩
      · show a :: b :: r = tx (r.take (num2 a b)) ++ l'.flatMap tx ++ q'
        rw [List.append_assoc, ← h2]
        show _ = two _ ++ _ ++ _
        rw [hk, num_two]
        simp
      · rcases List.mem_cons.1 hx with rfl | hx
        · rw [hk]; exact num2_lt a b
        · exact h3 x hx
theorem flatMap_tx_inj {l m : List Nm} {r q : Nm} (hn : l.length = m.length) (hl : ∀ x ∈ l, x.length < 65536) (hm : ∀ x ∈ m, x.length < 65536) (h : l.flatMap tx ++ r = m.flatMap tx ++ q) : l = m ∧ r = q := by
  have h1 := rdT_tx l r hl
  have h2 := rdT_tx m q hm
  rw [h, hn, h2] at h1
  injection h1 with h1
  injection h1 with e1 e2
  exact ⟨e1.symm, e2.symm⟩
theorem flat_len (l : List (Nm × Nm)) : (flat l).length = 2 * l.length := by
  induction l with
  | nil => rfl
  | cons p l ih => show ([p.1, p.2] ++ flat l).length = _; simp [ih]; omega
theorem flat_inj : ∀ {l m : List (Nm × Nm)}, flat l = flat m → l = m
  | [], [], _ => rfl
  | [], (a, b) :: m, h => by simp [flat] at h
  | (a, b) :: l, [], h => by simp [flat] at h
  | (a, b) :: l, (c, d) :: m, h => by
    have h' : a :: b :: flat l = c :: d :: flat m := h
    injection h' with e1 h'
    injection h' with e2 h'
    subst e1 e2
    rw [flat_inj h']
/-- pairs of a row of texts -/
def unflat : List Nm → List (Nm × Nm)
  | a :: b :: l => (a, b) :: unflat l
  | _ => []
theorem unflat_flat : ∀ l : List (Nm × Nm), unflat (flat l) = l
  | [] => rfl
  | (a, b) :: l => by show unflat (a :: b :: flat l) = _; rw [unflat, unflat_flat l]
theorem flat_mem {l : List (Nm × Nm)} {n : Nat} (h1 : ∀ x ∈ l.map (·.1), x.length ≤ n) (h2 : ∀ x ∈ l.map (·.2), x.length ≤ n) : ∀ x ∈ flat l, x.length ≤ n := fun x hx => by
  obtain ⟨p, hp, hx⟩ := List.mem_flatMap.1 hx
  rcases List.mem_cons.1 hx with rfl | hx
  · exact h1 _ (List.mem_map_of_mem hp)
  · have : x = p.2 := by simpa using hx
    subst this
    exact h2 _ (List.mem_map_of_mem hp)
theorem part_inj {a b : Int} (ha : -1048576 ≤ a ∧ a ≤ 1048576) (hb : -1048576 ≤ b ∧ b ≤ 1048576) (h : part a = part b) : a = b := by
  unfold part at h
  obtain ⟨h1, h2⟩ := List.append_inj h rfl
  have e1 := two_inj (by omega) (by omega) h1
  have e2 := two_inj (by omega) (by omega) h2
  omega
theorem inner_inj {m m' : Vl} (h : RtV m) (h' : RtV m') (hk : m.kind = m'.kind) (e : inner m = inner m') : m = m' := by
  obtain ⟨k, t, p, i, x, y⟩ := m
  obtain ⟨k', t', p', i', x', y'⟩ := m'
  have hk' : k = k' := hk
  subst hk'
  obtain ⟨q1, q2, q3, q5, kk, f1, f2, f3, f4, f5⟩ := h
  obtain ⟨r1, r2, r3, r5, _, g1, g2, g3, g4, g5⟩ := h'
  dsimp only at *
  unfold inner at e
  dsimp only at e
  by_cases c1 : k = 1
  · rw [if_pos c1, if_pos c1] at e
    have := flatMap_tx_inj (l := [t]) (m := [t']) (r := []) (q := []) rfl (by have := f1 c1; simp; omega) (by have := g1 c1; simp; omega) (by simpa using e)
    have ht : t = t' := by simpa using this.1
    obtain ⟨rfl, rfl⟩ := q5 (by omega)
    obtain ⟨rfl, rfl⟩ := r5 (by omega)
    rw [ht, q2 (by omega), r2 (by omega), q3 (by omega) (by omega), r3 (by omega) (by omega)]
  · rw [if_neg c1, if_neg c1] at e
    by_cases c2 : k = 2
    · rw [if_pos c2, if_pos c2] at e
      obtain ⟨⟨a1, a2, a3⟩, _, ⟨a4, _, _⟩⟩ := f2 c2
      obtain ⟨⟨b1, b2, b3⟩, _, ⟨b4, _, _⟩⟩ := g2 c2
      simp only [List.length_map] at a2 a3 b2 b3
      obtain ⟨e1, e2⟩ := List.append_inj e rfl
      have hn := two_inj (by omega) (by omega) e1
      have := flatMap_tx_inj (l := flat p) (m := flat p') (r := []) (q := []) (by rw [flat_len, flat_len, hn]) (fun x hx => by have := flat_mem a1 a4 x hx; omega) (fun x hx => by have := flat_mem b1 b4 x hx; omega) (by simpa using e2)
      have hp := flat_inj this.1
      obtain ⟨rfl, rfl⟩ := q5 (by omega)
      obtain ⟨rfl, rfl⟩ := r5 (by omega)
      rw [hp, q1 c1, r1 c1, q3 (by omega) (by omega), r3 (by omega) (by omega)]
    · rw [if_neg c2, if_neg c2] at e
      by_cases c5 : k = 5
      · rw [if_pos c5, if_pos c5] at e
        obtain ⟨a1, a2, a3, a4⟩ := f5 c5
        obtain ⟨b1, b2, b3, b4⟩ := g5 c5
        obtain ⟨e1, e2⟩ := List.append_inj e rfl
        rw [part_inj ⟨a1, a2⟩ ⟨b1, b2⟩ e1, part_inj ⟨a3, a4⟩ ⟨b3, b4⟩ e2, q1 c1, r1 c1, q2 c2, r2 c2, q3 (by omega) (by omega), r3 (by omega) (by omega)]
      · rw [if_neg c5, if_neg c5] at e
        obtain ⟨a1, a2, a3⟩ : Fits i := by
          rcases (show k = 3 ∨ k = 4 by omega) with c | c
          · exact f3 c
          · exact (f4 c).1
        obtain ⟨b1, b2, b3⟩ : Fits i' := by
          rcases (show k = 3 ∨ k = 4 by omega) with c | c
          · exact g3 c
          · exact (g4 c).1
        obtain ⟨e1, e2⟩ := List.append_inj e rfl
        have hn := two_inj (by omega) (by omega) e1
        have := flatMap_tx_inj (l := i) (m := i') (r := []) (q := []) hn (fun x hx => by have := a1 x hx; omega) (fun x hx => by have := b1 x hx; omega) (by simpa using e2)
        obtain ⟨rfl, rfl⟩ := q5 c5
        obtain ⟨rfl, rfl⟩ := r5 c5
        rw [this.1, q1 c1, r1 c1, q2 c2, r2 c2]
theorem body_inj {m m' : Vl} (h : RtV m) (h' : RtV m') (e : bodyV m = bodyV m') : m = m' := by
  unfold bodyV at e
  injection e with e1 e2
  have hk : m.kind = m'.kind := by
    have k1 := h.k
    have k2 := h'.k
    have := congrArg UInt8.toNat e1
    rw [UInt8.toNat_ofNat', UInt8.toNat_ofNat'] at this
    omega
  exact inner_inj h h' hk e2
/-- unlike values have unlike bytes -/
theorem dump_body {m m' : Vl} (e : dumpV m = dumpV m') : bodyV m = bodyV m' := by
  have hl := congrArg List.length e
  unfold dumpV at hl e
  simp only [List.length_append, two_len] at hl
  exact (List.append_inj e (by omega)).1
theorem dump_inj {m m' : Vl} (h : RtV m) (h' : RtV m') (e : dumpV m = dumpV m') : m = m' := body_inj h h' (dump_body e)

end Go.Proofs.YtmjmdfenkhmfbabDoor
