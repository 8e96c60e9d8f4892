/- Plain mathematics, no program in it: the sum of 16 bits bit by bit, by halves of bytes and a table, and by the document's words are one function; it is linear over xor; bits turned within sixteen in a row change it. -/
namespace Go.Proofs.YtgpdbcigogkkbaaDoor.Crc

/-- one bit more, the highest of a byte first -/
def bstep (c : BitVec 16) (b : Bool) : BitVec 16 := (c <<< 1) ^^^ (if (c.msb ^^ b) then 0x1021#16 else 0#16)
def bits8 (x : BitVec 8) : List Bool := [x.getLsbD 7, x.getLsbD 6, x.getLsbD 5, x.getLsbD 4, x.getLsbD 3, x.getLsbD 2, x.getLsbD 1, x.getLsbD 0]
/-- one byte more -/
def step (c : BitVec 16) (x : BitVec 8) : BitVec 16 := (bits8 x).foldl bstep c
def more (c : BitVec 16) (l : List (BitVec 8)) : BitVec 16 := l.foldl step c

/-- the document's words -/
def zstep (c : BitVec 16) : BitVec 16 := if 32768 ≤ c.toNat then (c * 2#16) ^^^ 0x1021#16 else c * 2#16
def zsteps : Nat → BitVec 16 → BitVec 16
  | 0, c => c
  | n + 1, c => zsteps n (zstep c)
def docStep (c : BitVec 16) (x : BitVec 8) : BitVec 16 := zsteps 8 (c ^^^ (x.setWidth 16 * 256#16))

/-- the program's table of half bytes -/
def tabL : List (BitVec 16) := [0x0000#16, 0x1021#16, 0x2042#16, 0x3063#16, 0x4084#16, 0x50a5#16, 0x60c6#16, 0x70e7#16, 0x8108#16, 0x9129#16, 0xa14a#16, 0xb16b#16, 0xc18c#16, 0xd1ad#16, 0xe1ce#16, 0xf1ef#16]
def tabB (i : BitVec 4) : BitVec 16 := tabL.getD i.toNat 0#16
def halfB (c : BitVec 16) (h : BitVec 4) : BitVec 16 := (c <<< 4) ^^^ tabB (c.extractLsb' 12 4 ^^^ h)

theorem bstep_xor (c d : BitVec 16) (a b : Bool) : bstep (c ^^^ d) (a ^^ b) = bstep c a ^^^ bstep d b := by
  unfold bstep
  rw [BitVec.shiftLeft_xor_distrib, BitVec.msb_xor]
  generalize c <<< 1 = p
  generalize d <<< 1 = q
  apply BitVec.eq_of_getLsbD_eq
  intro i _
  simp only [BitVec.getLsbD_xor]
  cases c.msb <;> cases d.msb <;> cases a <;> cases b <;> simp <;> cases p.getLsbD i <;> cases q.getLsbD i <;> cases (4129#16).getLsbD i <;> rfl

theorem step_xor (c d : BitVec 16) (x y : BitVec 8) : step (c ^^^ d) (x ^^^ y) = step c x ^^^ step d y := by
  simp only [step, bits8, List.foldl, BitVec.getLsbD_xor, bstep_xor]

theorem more_xor (l m : List (BitVec 8)) (h : l.length = m.length) (c d : BitVec 16) : more (c ^^^ d) (List.zipWith (· ^^^ ·) l m) = more c l ^^^ more d m := by
  induction l generalizing m c d with
  | nil => cases m with
    | nil => rfl
    | cons y m => simp at h
  | cons x l ih => cases m with
    | nil => simp at h
    | cons y m =>
      simp only [more, List.zipWith_cons_cons, List.foldl_cons, step_xor] at ih ⊢
      exact ih m (by simpa using h) _ _

theorem more_append (c : BitVec 16) (l m : List (BitVec 8)) : more c (l ++ m) = more (more c l) m := List.foldl_append

theorem split16 (c : BitVec 16) : c = (c.setWidth 8).setWidth 16 ^^^ (((c >>> 8).setWidth 8).setWidth 16 <<< 8) := by
  apply BitVec.eq_of_getLsbD_eq
  intro i hi
  by_cases h8 : i < 8
  · simp [h8, hi]
  · simp [h8, hi]
    have h1 : i - 8 < 8 := by omega
    rw [show 8 + (i - 8) = i by omega, BitVec.getLsbD_eq_getElem hi]
    simp [h1]

theorem lin_ext (f g : BitVec 16 → BitVec 16) (hf : ∀ a b, f (a ^^^ b) = f a ^^^ f b) (hg : ∀ a b, g (a ^^^ b) = g a ^^^ g b)
    (h0 : ∀ x : BitVec 8, f (x.setWidth 16) = g (x.setWidth 16)) (h1 : ∀ x : BitVec 8, f (x.setWidth 16 <<< 8) = g (x.setWidth 16 <<< 8)) (c : BitVec 16) : f c = g c := by
  rw [split16 c, hf, hg, h0, h1]

theorem tab_xor : ∀ i j : BitVec 4, tabB (i ^^^ j) = tabB i ^^^ tabB j := by decide +kernel
theorem ext_xor (c d : BitVec 16) : (c ^^^ d).extractLsb' 12 4 = c.extractLsb' 12 4 ^^^ d.extractLsb' 12 4 := by
  apply BitVec.eq_of_getLsbD_eq
  intro i _
  simp
  cases decide (i < 4) <;> simp
theorem half_xor (c d : BitVec 16) (g h : BitVec 4) : halfB (c ^^^ d) (g ^^^ h) = halfB c g ^^^ halfB d h := by
  unfold halfB
  rw [BitVec.shiftLeft_xor_distrib, ext_xor, show c.extractLsb' 12 4 ^^^ d.extractLsb' 12 4 ^^^ (g ^^^ h) = (c.extractLsb' 12 4 ^^^ g) ^^^ (d.extractLsb' 12 4 ^^^ h) by ac_rfl, tab_xor]
  ac_rfl

/-- what the program does with a byte -/
theorem code_step (c : BitVec 16) (x : BitVec 8) : halfB (halfB c (x.extractLsb' 4 4)) (x.extractLsb' 0 4) = step c x := by
  have e4 : ∀ y : BitVec 8, (0#8 ^^^ y).extractLsb' 4 4 = (0#8).extractLsb' 4 4 ^^^ y.extractLsb' 4 4 := by decide +kernel
  have e0 : ∀ y : BitVec 8, (0#8 ^^^ y).extractLsb' 0 4 = (0#8).extractLsb' 0 4 ^^^ y.extractLsb' 0 4 := by decide +kernel
  have hx : ∀ y : BitVec 8, halfB (halfB 0#16 (y.extractLsb' 4 4)) (y.extractLsb' 0 4) = step 0#16 y := by decide +kernel
  have hc : ∀ d : BitVec 16, halfB (halfB d ((0#8).extractLsb' 4 4)) ((0#8).extractLsb' 0 4) = step d 0#8 := by
    refine lin_ext _ _ (fun a b => ?_) (fun a b => ?_) (by decide +kernel) (by decide +kernel)
    · have z4 : (0#8).extractLsb' 4 4 = (0#8).extractLsb' 4 4 ^^^ (0#8).extractLsb' 4 4 := by decide
      have z0 : (0#8).extractLsb' 0 4 = (0#8).extractLsb' 0 4 ^^^ (0#8).extractLsb' 0 4 := by decide
      conv => lhs; rw [z0, z4]
      rw [half_xor, half_xor]
    · conv => lhs; rw [show (0#8) = 0#8 ^^^ 0#8 by decide]
      rw [step_xor]
  have e : x = 0#8 ^^^ x := by simp
  have d : c = c ^^^ 0#16 := by simp
  conv => lhs; rw [e, d, e4, e0, half_xor, half_xor, hc, hx, ← step_xor, ← e, ← d]

theorem zstep_eq (c : BitVec 16) : zstep c = bstep c false := by
  unfold zstep bstep
  have h2 : c * 2#16 = c <<< 1 := by
    apply BitVec.eq_of_toNat_eq
    simp [BitVec.toNat_mul, BitVec.toNat_shiftLeft, Nat.shiftLeft_eq]
  have hm : c.msb = decide (32768 ≤ c.toNat) := by rw [BitVec.msb_eq_decide]
  rw [h2, hm]
  by_cases h : 32768 ≤ c.toNat <;> simp [h]
theorem zsteps_xor (n : Nat) (c d : BitVec 16) : zsteps n (c ^^^ d) = zsteps n c ^^^ zsteps n d := by
  induction n generalizing c d with
  | zero => rfl
  | succ n ih => rw [zsteps, zsteps, zsteps, zstep_eq, zstep_eq, zstep_eq, ← ih, ← bstep_xor]; rfl
/-- what the document does with a byte -/
theorem doc_step (c : BitVec 16) (x : BitVec 8) : docStep c x = step c x := by
  have hx : ∀ y : BitVec 8, zsteps 8 (y.setWidth 16 * 256#16) = step 0#16 y := by decide +kernel
  have hc : zsteps 8 c = step c 0#8 := by simp [zsteps, zstep_eq, step, bits8]
  unfold docStep
  rw [zsteps_xor, hx, hc, ← step_xor]
  simp

end Go.Proofs.YtgpdbcigogkkbaaDoor.Crc
