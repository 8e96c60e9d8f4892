/- Feed, of a parser with its stream, and of one that has told an error; Left. -/
import Derived.Test.YtjcegiponjpjiabDoorAll
namespace Go.Proofs.YtjcegiponjpjiabDoor
open Go.RowKit

theorem Par.feed {w W : World} {b : Nat} {v v' : Value} {s t : List UInt8} (hP : Pars w b v 0) (h3 : ∀ a n c, v = .slice (some a) n c → b < a.block) (hs : Strm W v' (s ++ t)) (hg : Grew v w W) (hn : Near w v v') : Par (W.setCell ⟨b, 0, none⟩ v') b (s ++ t) 0 := by
  have hP' : Pars W b v 0 := (hg.block b hP.lt fun a n c e _ => Nat.ne_of_gt (h3 a n c e)).trans hP
  have hb' : ∀ a n c, v' = .slice (some a) n c → b < a.block := fun a n c e => by
    rcases hn a n c e with ⟨a0, n0, c0, e0, h⟩ | h
    · rw [h]; exact h3 _ _ _ e0
    · exact Nat.lt_of_lt_of_le hP.lt h
  refine ⟨v', hP'.set0 v', hs.keep fun a n c e => ?_, hb'⟩
  exact heap_setCell_other W ⟨b, 0, none⟩ a.block v' (fun h => by have := hb' a n c e; simp at h; omega)
/-- what is turned by Feed: the parser's block, and its stream's, a block of bytes -/
structure Fed (b : Nat) (w w' : World) : Prop where
  below : ∀ n, n ≤ b → Below n w w'
  kept : Kept w w'
  par : b < w.heap.size
theorem fed_of {w W : World} {b : Nat} {v v' : Value} {s : List UInt8} (hP : Pars w b v 0) (hv : Strm w v s) (h3 : ∀ a n c, v = .slice (some a) n c → b < a.block) (hg : Grew v w W) : Fed b w (W.setCell ⟨b, 0, none⟩ v') := by
  have hP' : Pars W b v 0 := (hg.block b hP.lt fun a n c e _ => Nat.ne_of_gt (h3 a n c e)).trans hP
  refine ⟨fun n hn => ?_, fun g cur fr t ht h0 => ?_, hP.lt⟩
  · have h1 : Below n w W := ⟨hg.os, hg.tape, hg.output, hg.size, fun k hk => by
      rcases Nat.lt_or_ge k w.heap.size with h | h
      · exact hg.block k h fun a n' c e _ => by have := h3 a n' c e; omega
      · have := hP.lt; omega⟩
    exact h1.setCell (p := ⟨b, 0, none⟩) hn _
  · have hlt := (Array.getElem?_eq_some_iff.1 h0).1
    have hgb : g ≠ b := fun e => by
      subst e
      unfold Pars at hP
      rw [hP] at h0
      injection h0 with h0
      injection h0 with _ h0
      rcases ht with rfl | rfl
      · exact absurd h0 (by decide)
      · exact absurd h0 (by decide)
    have hW : W.heap[g]? = w.heap[g]? := hg.block g hlt fun a n c e hc hag => by
      obtain ⟨a1, cap, rfl, _, _, h4⟩ := hv
      injection e with e1 e2 e3
      subst e1
      subst e3
      rcases h4 with h4 | ⟨g', off, cur', e, hg', _⟩
      · omega
      · injection e with e
        subst e
        simp only at hag
        subst hag
        rw [hg'] at h0
        injection h0 with h0
        injection h0 with _ h0
        rcases ht with rfl | rfl
        · exact absurd h0 (by decide)
        · exact absurd h0 (by decide)
    rw [heap_setCell_other W ⟨b, 0, none⟩ g v' (fun h => hgb (by simpa using h)), hW]
    exact h0
/-- Feed -/
theorem feed_par (b : Nat) (s t : List UInt8) (q : Option Addr) (c : Nat) (w : World) (h : Par w b s 0) (hq : At w q t) (hlen : s.length + t.length ≤ 140737488300000) :
    Calls Tryd.prog 6 #[.pointer (some ⟨b, 0, none⟩), .slice q t.length c] w fun r w' => r = .returned (.tuple #[]) ∧ Hid (Par w' b (s ++ t) 0 ∧ Fed b w w') := by
  obtain ⟨v, h1, h2, h3⟩ := h
  refine (feed_any b v s t q c w h1 h2 (fun a n c e => Nat.ne_of_gt (h3 a n c e)) hq hlen).mono ?_
  rintro r w' ⟨rfl, hh⟩
  obtain ⟨v', W, k1, k2, k3, rfl⟩ := hh.out
  exact ⟨rfl, Par.feed h1 h3 k1 k2 k3, fed_of h1 h2 h3 k2⟩
set_option maxHeartbeats 1000000 in
set_option maxRecDepth 100000 in
/-- Feed, of a parser that has told an error -/
theorem feed_ill (b : Nat) (v : Value) (e : Int) (y : Value) (w : World) (h : Pars w b v e) (he : e ≠ 0) :
    Calls Tryd.prog 6 #[.pointer (some ⟨b, 0, none⟩), y] w fun r w' => r = .returned (.tuple #[]) ∧ w' = w := by
  have c1 := h.cell1
  have hne : (e == 0) = false := beq_eq_false_iff_ne.2 he
  clear h
  go_enter Tryd.func6, Tryd.ntmps6
  go_wp2
  go_end0
  exact ⟨rfl, rfl⟩
/-- Left -/
theorem left_par (b : Nat) (s : List UInt8) (e : Int) (w : World) (h : Par w b s e) :
    Calls Tryd.prog 10 #[.pointer (some ⟨b, 0, none⟩)] w fun r w' => r = .returned (.int .i64 s.length) ∧ w' = w := by
  obtain ⟨v, h1, ⟨a, cap, rfl, _⟩, _⟩ := h
  exact left_any b a s.length cap e w h1
/-- New -/
theorem new_par (w : World) :
    Calls Tryd.prog 4 #[] w fun r w' => r = .returned (.pointer (some ⟨w.heap.size, 0, none⟩)) ∧ Hid (Par w' w.heap.size [] 0 ∧ Below w.heap.size w w' ∧ w.heap.size < w'.heap.size) := by
  refine (new_any w).mono ?_
  rintro r w' ⟨rfl, rfl⟩
  exact ⟨rfl, ⟨_, heap_alloc_new w _, Strm.nil _, fun a n c e => by cases e⟩, below_alloc w _, by simp⟩

end Go.Proofs.YtjcegiponjpjiabDoor
