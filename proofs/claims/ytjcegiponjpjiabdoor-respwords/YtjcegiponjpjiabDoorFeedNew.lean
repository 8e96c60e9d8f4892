/- Feed, of a new parser: nothing but its block turns. (LawKeeps bears the same: import one of the two.) -/
import Derived.Test.YtjcegiponjpjiabDoorConv
namespace Go.Proofs.YtjcegiponjpjiabDoor
open Go.RowKit

theorem bytes_append (a b : List UInt8) : ((⟨a.toArray⟩ : ByteArray) ++ ⟨b.toArray⟩) = ⟨(a ++ b).toArray⟩ := by
  apply ByteArray.ext
  simp
/-- Feed, of a new parser -/
theorem feed_new (b : Nat) (t : List UInt8) (q : Option Addr) (c : Nat) (w : World) (h : Pars w b (.slice none 0 0) 0) (hq : At w q t) (hlen : t.length ≤ 140737488300000) :
    Calls Tryd.prog 6 #[.pointer (some ⟨b, 0, none⟩), .slice q t.length c] w fun r w' => r = .returned (.tuple #[]) ∧ Hid (∃ v, Pars w' b v 0 ∧ Strm w' v t ∧ (∀ a n c, v = .slice (some a) n c → w.heap.size ≤ a.block) ∧ Only b w w') := by
  refine (feed_any b (.slice none 0 0) [] t q c w h (Strm.nil _) (fun a n c e => by cases e) hq (by simpa using hlen)).mono ?_
  rintro r w' ⟨rfl, hh⟩
  obtain ⟨v', W, k1, k2, k3, rfl⟩ := hh.out
  rw [List.nil_append] at k1
  have hn : ∀ a n c, v' = .slice (some a) n c → w.heap.size ≤ a.block := fun a n c e => by
    rcases k3 a n c e with ⟨a0, n0, c0, e0, _⟩ | h
    · cases e0
    · exact h
  have hPW : Pars W b (.slice none 0 0) 0 := (k2.block b h.lt fun a n c e => by cases e).trans h
  have hOW : Only b w W := ⟨k2.os, k2.tape, k2.output, k2.size, fun k hk _ => k2.block k hk fun a n c e => by cases e⟩
  refine ⟨rfl, v', hPW.set0 v', k1.keep fun a n c e => ?_, hn, hOW.setCell 0 v'⟩
  exact heap_setCell_other W ⟨b, 0, none⟩ a.block v' (fun hx => by have := hn a n c e; have := h.lt; simp at hx; omega)

end Go.Proofs.YtjcegiponjpjiabDoor
