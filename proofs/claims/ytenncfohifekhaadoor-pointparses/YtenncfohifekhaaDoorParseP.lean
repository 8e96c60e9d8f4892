/- Reading points: plain mathematics. -/
import Derived.Test.YtenncfohifekhaaDoorPModel
namespace Go.Proofs.YtenncfohifekhaaDoor

/-- a text is a point's writing -/
def Wr (s : List UInt8) (x y : Int) : Prop := rt x y = true ∧ wrt x y = s
open Classical in
/-- the point whose writing a text is -/
noncomputable def parseP (s : List UInt8) : Tel := if h : ∃ p : Int × Int, Wr s p.1 p.2 then ⟨(Classical.choose h).1, (Classical.choose h).2, 0⟩ else ⟨0, 0, 90⟩
theorem Wr.inj {s : List UInt8} {x y x' y' : Int} (h : Wr s x y) (k : Wr s x' y') : x = x' ∧ y = y' := wrt_inj (h.2.trans k.2.symm)
theorem parse_is {s : List UInt8} {x y : Int} (h : Wr s x y) : parseP s = ⟨x, y, 0⟩ := by
  have hx : ∃ p : Int × Int, Wr s p.1 p.2 := ⟨(x, y), h⟩
  unfold parseP
  rw [dif_pos hx]
  obtain ⟨h1, h2⟩ := (Classical.choose_spec hx).inj h
  rw [h1, h2]
theorem parse_none {s : List UInt8} (h : ∀ x y, ¬ Wr s x y) : parseP s = ⟨0, 0, 90⟩ := by
  unfold parseP
  rw [dif_neg (fun ⟨p, hp⟩ => h p.1 p.2 hp)]
theorem print_wr {s : List UInt8} {x y : Int} (hs : s ≠ []) (h : printP x y = s) : Wr s x y := by
  unfold printP at h
  by_cases hr : rt x y = true
  · rw [if_pos hr] at h; exact ⟨hr, h⟩
  · rw [if_neg hr] at h; exact absurd h.symm hs
theorem Wr.print {s : List UInt8} {x y : Int} (h : Wr s x y) : printP x y = s := by unfold printP; rw [if_pos h.1]; exact h.2
theorem wr_or (s : List UInt8) : (∃ x y, Wr s x y) ∨ ∀ x y, ¬ Wr s x y := by
  by_cases h : ∃ x y, Wr s x y
  · exact .inl h
  · exact .inr fun x y k => h ⟨x, y, k⟩
/-- a text that is no writing is none's -/
theorem print_not {s : List UInt8} {x y : Int} (hs : s ≠ []) (h : ∀ x y, ¬ Wr s x y) : printP x y ≠ s := fun e => h x y (print_wr hs e)
/-- a sign -/
def sg (b : UInt8) : Bool := b == 43 || b == 45
/-- where the last sign is, if but digits are behind it -/
def LastAt (l : List UInt8) (k : Int) : Prop := -1 ≤ k ∧ k < l.length ∧ ∀ a c d, l = a ++ c :: d → sg c = true → Dig d → k = a.length
theorem sg_not {b : UInt8} (h0 : 48 ≤ b.toNat) : sg b = false := by
  have h1 : b ≠ 43 := fun h => by subst h; simp at h0
  have h2 : b ≠ 45 := fun h => by subst h; simp at h0
  simp [sg, h1, h2]
/-- the places from i on are no such sign's -/
def Ahead (l : List UInt8) (i : Nat) : Prop := ∀ a c d, l = a ++ c :: d → sg c = true → Dig d → a.length < i
theorem Ahead.all (l : List UInt8) : Ahead l l.length := fun a c d h _ _ => by rw [h]; simp
theorem Ahead.found {l : List UInt8} {i : Nat} (h : Ahead l (i + 1)) (hi : i < l.length) (hs : sg l[i] = true) : LastAt l i := by
  refine ⟨by omega, by omega, fun a c d e hc hd => ?_⟩
  have h1 := h a c d e hc hd
  by_cases hlt : a.length = i
  · omega
  · exfalso
    have hm : l[i] ∈ d := by
      have : l[i] = d[i - a.length - 1]'(by have := congrArg List.length e; simp at this; omega) := by
        subst e
        rw [List.getElem_append_right (by omega), List.getElem_cons, dif_neg (by omega)]
      rw [this]; exact List.getElem_mem _
    have := hd _ hm
    rw [sg_not this.1] at hs
    exact Bool.noConfusion hs
theorem Ahead.next {l : List UInt8} {i : Nat} (h : Ahead l (i + 1)) (hi : i < l.length) (hs : sg l[i] = false) : Ahead l i := fun a c d e hc hd => by
  have h1 := h a c d e hc hd
  by_cases hlt : a.length = i
  · exfalso
    have : l[i] = c := by subst e; subst hlt; simp
    rw [this, hc] at hs
    exact Bool.noConfusion hs
  · omega
/-- a byte that is no digit and no sign: nothing is to be found -/
theorem Ahead.other {l : List UInt8} {i : Nat} (h : Ahead l (i + 1)) (hi : i < l.length) (hs : 128 ≤ l[i].toNat) : ∀ a c d, l = a ++ c :: d → sg c = true → Dig d → False := fun a c d e hc hd => by
  have h1 := h a c d e hc hd
  by_cases hlt : a.length = i
  · have : l[i] = c := by subst e; subst hlt; simp
    rw [this] at hs
    have : c = 43 ∨ c = 45 := by simpa [sg] using hc
    rcases this with rfl | rfl <;> simp at hs
  · have hm : l[i] ∈ d := by
      have : l[i] = d[i - a.length - 1]'(by have := congrArg List.length e; simp at this; omega) := by
        subst e
        rw [List.getElem_append_right (by omega), List.getElem_cons, dif_neg (by omega)]
      rw [this]; exact List.getElem_mem _
    have := hd _ hm
    omega
theorem Ahead.none {l : List UInt8} (h : Ahead l 0) : LastAt l (-1) := ⟨by omega, by omega, fun a c d e hc hd => absurd (h a c d e hc hd) (by omega)⟩
/-- the last sign of a writing -/
theorem last_wrt {x y k : Int} (h : LastAt (Lib.itoa x ++ signY y) k) : k = (Lib.itoa x).length := by
  unfold signY at h
  by_cases hy : y < 0
  · rw [if_pos hy, itoa_parts y, if_pos hy] at h
    exact h.2.2 _ 45 _ rfl rfl (dec_dig _)
  · rw [if_neg hy, itoa_parts y, if_neg hy] at h
    exact h.2.2 _ 43 _ rfl rfl (dec_dig _)

end Go.Proofs.YtenncfohifekhaaDoor
