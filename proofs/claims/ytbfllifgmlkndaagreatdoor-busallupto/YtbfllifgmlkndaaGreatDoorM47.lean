/- BlNetM. -/
import Derived.Test.YtbfllifgmlkndaaGreatDoorM09
import Derived.Test.YtbfllifgmlkndaaGreatDoorM41
namespace Go.Proofs.YtbfllifgmlkndaaGreatDoor
open Go.RowKit
open Slot

theorem GoodP.like {o : Nat → Nat} {n : Nat} {p q : Pk} (h : GoodP o n p) (k : Like q p) : GoodP o n q := by
  obtain ⟨h1, h2, h3, h4, h5, h6⟩ := k
  refine ⟨by rw [h1]; exact h.kind, h2.trans h.frm, h3.trans h.of_, h4.trans h.epoch, by rw [h4, h5]; exact h.cur1, by rw [h5]; exact h.cur2, fun s hs => (h6 s (by unfold top; omega)).trans (h.cl s hs)⟩
theorem GoodP.dec {o : Nat → Nat} {n : Nat} {p : Pk} (h : GoodP o n p) (hn : n < 64) : decE (encS p) = 0 ∧ GoodP o n (decPk (encS p)) ∧ (decPk (encS p)).kind = p.kind ∧ (encS p).length ≤ 100000 := by
  have hr := h.right hn
  have h1 := h.cur1
  have h2 := h.cur2
  have he : p.epoch < 256 ^ 8 := by omega
  have hc : p.cur < 256 ^ 8 := by omega
  have e : encS p = enc p := by unfold encS; rw [if_pos hr]
  rw [e]
  obtain ⟨d1, d2⟩ := dec_is (dec_enc hr he hc)
  have hl := rd_enc hr he hc
  rw [d1, d2]
  refine ⟨rfl, h.like hl, hl.1, ?_⟩
  rw [enc_len]
  have := ctext_len p.cl
  omega
/-- a packet that another one told of itself is taken in -/
theorem good_take {o : Nat → Nat} {n i : Nat} {p : Pk} {v : Vw} (h : GoodP o n p) (hn : n < 64) (hi : Inv o i v) (hne : n ≠ i) :
    bTake v (encS p) = true ∧ Inv o i (bView v (encS p)) ∧ (∀ s, s < 16384 → o s = n → (bView v (encS p)).own s = n) ∧ (∀ s, s < 16384 → v.own s ≠ 64 → (bView v (encS p)).own s = v.own s) ∧
      bOut v (encS p) = if p.kind = 1 then [((n : Int), encS (tellV (bView v (encS p)) 2))] else [] := by
  obtain ⟨h1, h2, h3, -⟩ := h.dec hn
  have hT : bTake v (encS p) = true := by
    unfold bTake
    rw [h1, h2.frm, hi.self, decide_eq_true rfl, decide_eq_true (by omega)]; rfl
  have hV : bView v (encS p) = takeV v (decPk (encS p)) := by unfold bView; rw [if_pos hT]
  have hO : bOut v (encS p) = outs (decPk (encS p)).frm (answV v (decPk (encS p))) := by unfold bOut; rw [if_pos hT]
  obtain ⟨k1, k2, k3, k4⟩ := hi.take h2 hn hne
  rw [hO, hV, k4, h3, h2.frm]
  refine ⟨hT, k1, k2, k3, ?_⟩
  split <;> rfl
theorem tell_one {o : Nat → Nat} {i : Nat} {v : Vw} (hi : Inv o i v) (t : Nat) (ht : t < 64) (hne : t ≠ i) (k : Int) : tellE v (t : Int) = 0 ∧ tellO v k (t : Int) = [((t : Int), encS (tellV v k))] := by
  have hs := hi.self
  have hT : tellB v (t : Int) = true := by
    unfold tellB
    rw [decide_eq_true (by omega), decide_eq_true (by omega), hs, decide_eq_true (by omega)]; rfl
  refine ⟨by unfold tellE; rw [if_pos hT], by unfold tellO; rw [if_pos hT]; rfl⟩
end Go.Proofs.YtbfllifgmlkndaaGreatDoor
