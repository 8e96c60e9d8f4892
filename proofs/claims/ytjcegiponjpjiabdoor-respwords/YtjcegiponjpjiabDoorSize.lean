/- An argument's size cut off: resp.cutSize. -/
import Derived.Test.YtjcegiponjpjiabDoorModel
namespace Go.Proofs.YtjcegiponjpjiabDoor
open Go.RowKit

/-- what is amiss with an argument's first line: 0 all is well, -1 it is not all there -/
def sizeErr (s : List UInt8) : Int :=
  if s ≠ [] ∧ s.head? ≠ some 36 then 31
  else match lineAt s with
  | none => noLine s
  | some k => match num (s.take (k + 1)) 1024 with
    | none => 32
    | some _ => 0
/-- what cutSize tells -/
def Sized (w : World) (s : List UInt8) (v : Value) : Prop :=
  (sizeErr s ≠ 0 ∧ ∃ q n c, v = .tuple #[.int .i64 0, .slice q n c, .int .i64 (sizeErr s)]) ∨
  (sizeErr s = 0 ∧ ∃ k n q, lineAt s = some k ∧ num (s.take (k + 1)) 1024 = some n ∧ v = .tuple #[.int .i64 n, .slice q (s.length - (k + 1)) (s.length - (k + 1)), .int .i64 0] ∧ At w q (s.drop (k + 1)))
theorem noLine_ne (s : List UInt8) : noLine s ≠ 0 := by unfold noLine; split <;> decide
theorem bulk_bad {s : List UInt8} (h : sizeErr s ≠ 0) : bulk s = .stop (sizeErr s) := by
  unfold sizeErr at h ⊢
  unfold bulk
  by_cases h1 : s ≠ [] ∧ s.head? ≠ some 36
  · rw [if_pos h1, if_pos h1]
  · rw [if_neg h1] at h ⊢
    rw [if_neg h1]
    cases hl : lineAt s with
    | none => rfl
    | some k =>
      rw [hl] at h
      simp only at h ⊢
      cases hn : num (s.take (k + 1)) 1024 with
      | none => rfl
      | some n => rw [hn] at h; exact absurd rfl h
theorem bulk_good {s : List UInt8} {k n : Nat} (h : sizeErr s = 0) (hk : lineAt s = some k) (hn : num (s.take (k + 1)) 1024 = some n) : bulk s = if endVal (s.drop (k + 1)) n = 0 then .got [(s.drop (k + 1)).take n] ((s.drop (k + 1)).drop (n + 2)) else .stop (endVal (s.drop (k + 1)) n) := by
  unfold sizeErr at h
  unfold bulk
  by_cases h1 : s ≠ [] ∧ s.head? ≠ some 36
  · rw [if_pos h1] at h; cases h
  · rw [if_neg h1, hk]
    simp only
    rw [hn]
theorem below_drawn {n : Nat} {a w : World} (h : Below n a w) (k : Nat) : Below n a (w.drewN k) := ⟨h.os, h.tape, h.output, h.size, h.block⟩
set_option maxHeartbeats 1000000 in
set_option maxRecDepth 100000 in
/-- cutSize -/
theorem cutSize_any (p : Option Addr) (s : List UInt8) (cap : Nat) (w : World) (hA : At w p s) (h0 : p = none → cap = 0) (hc : s.length ≤ cap) :
    Calls Tryd.prog 18 #[.slice p s.length cap] w fun e w' => (∃ v, e = .returned v ∧ Hid (Sized w s v)) ∧ Hid (Below w.heap.size w w') := by
  have HCL := hid (cutLine_any p s cap w hA h0 hc)
  by_cases hs : s = []
  · subst hs
    have hl : lineAt [] = none := by
      rcases lineAt_cases [] with ⟨h, _⟩ | ⟨k, _, _, h, _⟩
      · exact h
      · simp at h
    have hse : sizeErr [] = -1 := by unfold sizeErr; rw [if_neg (by simp), hl]; rfl
    rw [hl] at HCL
    have HT : Hid (Sized w [] (.tuple #[.int .i64 0, .slice p 0 cap, .int .i64 (-1)])) := .inl ⟨by rw [hse]; decide, p, 0, cap, by rw [hse]⟩
    clear hA hl hse hc
    simp only [List.length_nil] at HCL ⊢
    go_enter Tryd.func18, Tryd.ntmps18
    go_wp2_with fail
    refine HCL.out.mono ?_; rintro e w' ⟨he, ⟨n, rfl⟩⟩
    obtain rfl := he.out
    go_wp2
    go_ret3
    exact ⟨⟨_, rfl, HT.out⟩, below_drawn (Below.refl _ _) n⟩
  · obtain ⟨b, o, rfl, hcell, _⟩ := hA hs
    have hpos : 0 < s.length := List.length_pos_iff.2 hs
    have hc0 := hcell 0 hpos
    rw [Nat.add_zero] at hc0
    have hhd : s.head? = some s[0] := by cases s with | nil => simp at hpos | cons x r => rfl
    obtain ⟨z, hz⟩ : ∃ z : Int, z = (s[0].toNat : Int) := ⟨_, rfl⟩
    rw [← hz] at hc0
    have hlen : (0 : Int) < (s.length : Int) := by omega
    by_cases h36 : s[0] = 36
    · have hz36 : z = 36 := by rw [hz, h36]; rfl
      subst hz36
      have hnot : ¬ (s ≠ [] ∧ s.head? ≠ some 36) := by rw [hhd, h36]; simp
      rcases lineAt_cases s with ⟨h1, _⟩ | ⟨k, h1, _, h3, h4⟩
      · have hse : sizeErr s = noLine s := by unfold sizeErr; rw [if_neg hnot, h1]
        rw [h1] at HCL
        have hne := noLine_ne s
        have HT : Hid (Sized w s (.tuple #[.int .i64 0, .slice (some ⟨b, o, none⟩) s.length cap, .int .i64 (noLine s)])) := .inl ⟨by rw [hse]; exact hne, _, _, _, by rw [hse]⟩
        have hnl : (if 512 ≤ s.length then (33 : Int) else -1) = noLine s := rfl
        rw [hnl] at HCL
        generalize noLine s = N at HCL HT hne
        have hneq : (N != 0) = true := by simp [bne, hne]
        have hneq2 : (N == 0) = false := beq_eq_false_iff_ne.2 hne
        clear hA hhd hnot h1 hse hnl hcell hz h36 hs hne
        go_enter Tryd.func18, Tryd.ntmps18
        go_wp2_with fail
        refine HCL.out.mono ?_; rintro e w' ⟨he, ⟨n, rfl⟩⟩
        obtain rfl := he.out
        go_wp2
        go_ret3
        exact ⟨⟨_, rfl, HT.out⟩, below_drawn (Below.refl _ _) n⟩
      · rw [h1] at HCL
        have hlk : (s.take (k + 1)).length = k + 1 := by simp; omega
        have hkne : k ≠ 0 := by
          intro e
          subst e
          rcases lineAt_cases s with ⟨h, _⟩ | ⟨m, h, h5, _, _⟩
          · rw [h] at h1; cases h1
          · rw [h] at h1
            injection h1 with h1
            subst h1
            have := (Lib.indexByte_some h5).1
            rw [List.getElem?_take, if_pos (by decide), List.getElem?_eq_getElem hpos, h36] at this
            injection this with this
            exact absurd this (by decide)
        have hTk : ∀ w', Below w.heap.size w w' → At w' (some ⟨b, o, none⟩) (s.take (k + 1)) := fun w' h => (hA.below h).take (k + 1)
        have HN : Hid (∀ n, Calls Tryd.prog 17 #[.slice (some ⟨b, o, none⟩) (k + 1) (k + 1), .int .i64 1024, .int .i64 32] (w.drewN n) fun e w' => e = .returned (numVal (s.take (k + 1)) 1024 32) ∧ Below (w.drewN n).heap.size (w.drewN n) w') := fun n => by
          have := number_any (some ⟨b, o, none⟩) (s.take (k + 1)) (k + 1) 1024 32 (w.drewN n) (hTk _ (below_drawn (Below.refl _ _) n)) (by omega) (by omega) (by omega) (by decide)
          rwa [hlk] at this
        have HT : Hid (∀ q, At w q (s.drop (k + 1)) → (∃ n, numVal (s.take (k + 1)) 1024 32 = .tuple #[.int .i64 n, .int .i64 0] ∧ Sized w s (.tuple #[.int .i64 n, .slice q (s.length - (k + 1)) (s.length - (k + 1)), .int .i64 0])) ∨ (numVal (s.take (k + 1)) 1024 32 = .tuple #[.int .i64 0, .int .i64 32] ∧ Sized w s (.tuple #[.int .i64 0, .slice q (s.length - (k + 1)) (s.length - (k + 1)), .int .i64 32]))) := fun q hq => by
          cases hn : num (s.take (k + 1)) 1024 with
          | none =>
            have hse : sizeErr s = 32 := by unfold sizeErr; rw [if_neg hnot, h1]; simp only; rw [hn]
            exact .inr ⟨numVal_none hn, .inl ⟨by rw [hse]; decide, _, _, _, by rw [hse]⟩⟩
          | some n =>
            have hse : sizeErr s = 0 := by unfold sizeErr; rw [if_neg hnot, h1]; simp only; rw [hn]
            exact .inl ⟨n, numVal_some hn, .inr ⟨hse, k, n, q, h1, hn, rfl, hq⟩⟩
        generalize numVal (s.take (k + 1)) 1024 32 = NV at HN HT
        clear hA hhd hnot h1 hcell hz h36 hs hTk hlk
        go_enter Tryd.func18, Tryd.ntmps18
        go_wp2_with fail
        refine HCL.out.mono ?_; rintro e w' ⟨he, ⟨n, rfl⟩⟩
        obtain ⟨q, rfl, hq⟩ := he.out
        have HT2 := hid (HT.out q hq)
        clear HT hq HCL he
        go_wp2_with fail
        refine (HN.out n).mono ?_; rintro e w' ⟨rfl, hb⟩
        have HB := hid hb
        clear hb HN
        rcases HT2.out with ⟨m, rfl, hsz⟩ | ⟨rfl, hsz⟩
        all_goals
          have HS := hid hsz
          clear hsz HT2
          go_wp2
          go_ret3
          exact ⟨⟨_, rfl, HS.out⟩, (below_drawn (Below.refl _ _) n).trans HB.out⟩
    · have hzne : (z == 36) = false := beq_eq_false_iff_ne.2 fun e => h36 (UInt8.toNat_inj.1 (by have : (36 : UInt8).toNat = 36 := rfl; omega))
      have hzne2 : (z != 36) = true := by simp [bne, hzne]
      have hse : sizeErr s = 31 := by
        unfold sizeErr
        rw [if_pos ⟨hs, by rw [hhd]; intro e; injection e with e; exact h36 e⟩]
      have HT : Hid (Sized w s (.tuple #[.int .i64 0, .slice (some ⟨b, o, none⟩) s.length cap, .int .i64 31])) := .inl ⟨by rw [hse]; decide, _, _, _, by rw [hse]⟩
      clear hA hhd hse hcell hz h36 hs
      go_enter Tryd.func18, Tryd.ntmps18
      go_wp2
      go_ret3
      exact ⟨⟨_, rfl, HT.out⟩, Below.refl _ _⟩

end Go.Proofs.YtjcegiponjpjiabDoor
