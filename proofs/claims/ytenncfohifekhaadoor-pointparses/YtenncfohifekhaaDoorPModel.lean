/- Points: plain mathematics. -/
import Derived.Test.YtenncfohifekhaaDoorNumModel
namespace Go.Proofs.YtenncfohifekhaaDoor

/-- which points may be -/
def rt (x y : Int) : Bool := decide (-1048576 ≤ x ∧ x ≤ 1048576 ∧ -1048576 ≤ y ∧ y ≤ 1048576)
theorem rt_iff {x y : Int} : rt x y = true ↔ -1048576 ≤ x ∧ x ≤ 1048576 ∧ -1048576 ≤ y ∧ y ≤ 1048576 := by simp [rt]
/-- a point, and an error -/
structure Tel where
  x : Int
  y : Int
  e : Int
def may (x y : Int) : Tel := if rt x y then ⟨x, y, 0⟩ else ⟨0, 0, 91⟩
def addP (a b c d : Int) : Tel := if rt a b && rt c d then may (a + c) (b + d) else ⟨0, 0, 91⟩
def mulP (a b c d : Int) : Tel := if rt a b && rt c d then may (a * c - b * d) (a * d + b * c) else ⟨0, 0, 91⟩
def turn1 (p : Int × Int) : Int × Int := (-p.2, p.1)
def turnK (k : Nat) (p : Int × Int) : Int × Int := Nat.rec p (fun _ q => turn1 q) k
def turnP (x y n : Int) : Int × Int := if rt x y then turnK (n % 4).toNat (x, y) else (0, 0)
def normP (x y : Int) : Int := if rt x y then x * x + y * y else 0
/-- the writing -/
def signY (y : Int) : List UInt8 := if y < 0 then Lib.itoa y else 43 :: Lib.itoa y
def wrt (x y : Int) : List UInt8 := Lib.itoa x ++ (signY y ++ [105])
def printP (x y : Int) : List UInt8 := if rt x y then wrt x y else []
theorem itoa_parts (n : Int) : Lib.itoa n = if n < 0 then 45 :: dec n.natAbs else dec n.natAbs := by
  unfold Lib.itoa
  by_cases h : n < 0
  · rw [if_pos h, if_pos h]
  · rw [if_neg h, if_neg h, show n.toNat = n.natAbs by omega]
theorem span_dig : ∀ (l : List UInt8) (c : UInt8) (r : List UInt8), Dig l → isD c = false → (l ++ c :: r).takeWhile isD = l
  | [], c, r, _, hc => by simp [hc]
  | x :: l, c, r, h, hc => by
    have hx : isD x = true := by have := h x (by simp); simp [isD, this]
    rw [List.cons_append, List.takeWhile_cons_of_pos hx, span_dig l c r (fun b hb => h b (by simp [hb])) hc]
theorem dec_inj {m n : Nat} (h : dec m = dec n) : m = n := by rw [← val_dec m, h, val_dec]
theorem head_dig (n : Nat) : ∃ d r, dec n = d :: r ∧ 48 ≤ d.toNat ∧ d.toNat ≤ 57 := by
  cases h : dec n with
  | nil => exact absurd h (dec_ne n)
  | cons d r =>
    have := dec_dig n d (by rw [h]; simp)
    exact ⟨d, r, rfl, this.1, this.2⟩
/-- a number ahead of a sign is read one way -/
theorem itoa_ahead {x x' : Int} {c c' : UInt8} {r r' : List UInt8} (hc : isD c = false) (hc' : isD c' = false) (h : Lib.itoa x ++ c :: r = Lib.itoa x' ++ c' :: r') : x = x' ∧ c :: r = c' :: r' := by
  have key : x = x' := by
    rw [itoa_parts x, itoa_parts x'] at h
    obtain ⟨d, t, hd, d0, d1⟩ := head_dig x.natAbs
    obtain ⟨d', t', hd', d0', d1'⟩ := head_dig x'.natAbs
    by_cases hx : x < 0
    · by_cases hx' : x' < 0
      · rw [if_pos hx, if_pos hx'] at h
        simp only [List.cons_append, List.cons.injEq, true_and] at h
        have := congrArg (List.takeWhile isD) h
        rw [span_dig _ _ _ (dec_dig _) hc, span_dig _ _ _ (dec_dig _) hc'] at this
        have := dec_inj this
        omega
      · rw [if_pos hx, if_neg hx', hd'] at h
        simp only [List.cons_append, List.cons.injEq] at h
        rw [← h.1] at d0'
        simp at d0'
    · by_cases hx' : x' < 0
      · rw [if_neg hx, if_pos hx', hd] at h
        simp only [List.cons_append, List.cons.injEq] at h
        rw [h.1] at d0
        simp at d0
      · rw [if_neg hx, if_neg hx'] at h
        have := congrArg (List.takeWhile isD) h
        rw [span_dig _ _ _ (dec_dig _) hc, span_dig _ _ _ (dec_dig _) hc'] at this
        have := dec_inj this
        omega
  subst key
  exact ⟨rfl, List.append_cancel_left h⟩
theorem itoa_inj {x y : Int} (h : Lib.itoa x = Lib.itoa y) : x = y := by
  have := itoa_ahead (x := x) (x' := y) (c := 43) (c' := 43) (r := []) (r' := []) rfl rfl (by rw [h])
  exact this.1
theorem signY_head (y : Int) : ∃ c r, signY y = c :: r ∧ isD c = false := by
  unfold signY
  by_cases h : y < 0
  · rw [if_pos h, itoa_parts, if_pos h]; exact ⟨45, _, rfl, rfl⟩
  · rw [if_neg h]; exact ⟨43, _, rfl, rfl⟩
theorem signY_inj {y y' : Int} (h : signY y = signY y') : y = y' := by
  unfold signY at h
  by_cases h1 : y < 0
  · by_cases h2 : y' < 0
    · rw [if_pos h1, if_pos h2] at h; exact itoa_inj h
    · rw [if_pos h1, if_neg h2, itoa_parts, if_pos h1] at h
      simp at h
  · by_cases h2 : y' < 0
    · rw [if_neg h1, if_pos h2, itoa_parts y', if_pos h2] at h
      simp at h
    · rw [if_neg h1, if_neg h2] at h
      simp only [List.cons.injEq, true_and] at h
      exact itoa_inj h
/-- a writing is of one point -/
theorem wrt_inj {x y x' y' : Int} (h : wrt x y = wrt x' y') : x = x' ∧ y = y' := by
  unfold wrt at h
  obtain ⟨c, r, e, hc⟩ := signY_head y
  obtain ⟨c', r', e', hc'⟩ := signY_head y'
  have h' := h
  rw [e, e', List.cons_append, List.cons_append] at h'
  obtain ⟨h1, h2⟩ := itoa_ahead hc hc' h'
  subst h1
  have h3 := List.append_cancel_left h
  exact ⟨rfl, signY_inj (List.append_cancel_right h3)⟩
theorem wrt_ne (x y : Int) : wrt x y ≠ [] := by simp [wrt]
theorem printP_inj {x y x' y' : Int} (h : rt x y = true) (h' : rt x' y' = true) (e : printP x y = printP x' y') : x = x' ∧ y = y' := by
  unfold printP at e
  rw [if_pos h, if_pos h'] at e
  exact wrt_inj e
/-- what follows -/
theorem norm_mul (a b c d : Int) : (a * c - b * d) * (a * c - b * d) + (a * d + b * c) * (a * d + b * c) = (a * a + b * b) * (c * c + d * d) := by
  simp only [Int.sub_mul, Int.mul_sub, Int.add_mul, Int.mul_add]
  have h1 : a * c * (b * d) = a * d * (b * c) := by ac_rfl
  have h2 : b * d * (a * c) = a * d * (b * c) := by ac_rfl
  have h3 : b * c * (a * d) = a * d * (b * c) := by ac_rfl
  have h4 : a * c * (a * c) = a * a * (c * c) := by ac_rfl
  have h5 : b * d * (b * d) = b * b * (d * d) := by ac_rfl
  have h6 : a * d * (a * d) = a * a * (d * d) := by ac_rfl
  have h7 : b * c * (b * c) = b * b * (c * c) := by ac_rfl
  rw [h1, h2, h3, h4, h5, h6, h7]
  omega

end Go.Proofs.YtenncfohifekhaaDoor
