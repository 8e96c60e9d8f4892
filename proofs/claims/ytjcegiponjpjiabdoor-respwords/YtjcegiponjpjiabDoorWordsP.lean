/- The words of a line: resp.words. -/
import Derived.Test.YtjcegiponjpjiabDoorBlanks
import Derived.Test.YtjcegiponjpjiabDoorSize
namespace Go.Proofs.YtjcegiponjpjiabDoor
open Go.RowKit

theorem at_one (w : World) (c : UInt8) (z : Int) (hz : z = (c.toNat : Int)) : At (w.alloc (.cells #[.int .u8 z] 5 (1, 2))) (some ⟨w.heap.size, 0, none⟩) [c] := fun _ => ⟨w.heap.size, 0, rfl, fun i hi => by
  rw [Nat.zero_add, cell_of_row _ _ _ _ _ _ (heap_alloc_new w _)]
  have : i = 0 := by simp at hi; omega
  subst this
  subst hz
  rfl, _, _, heap_alloc_new w _⟩
/-- what words tells -/
def Worded (B : Nat) (w : World) (L : List UInt8) (v : Value) : Prop :=
  (32 < (words L).length ∧ v = .tuple #[.slice none 0 0, .int .i64 30]) ∨
  ((words L).length ≤ 32 ∧ ∃ A, v = .tuple #[.slice (some ⟨A, 0, none⟩) (words L).length (words L).length, .int .i64 0] ∧ Args B w (.slice (some ⟨A, 0, none⟩) (words L).length (words L).length) (words L))
theorem body_ways {L : List UInt8} (h : Lib.hasSuffix L [10] = true) : ∃ m, L.length = m + 1 ∧ ((Lib.hasSuffix (L.take m) [13] = true ∧ bodyLen L = m - 1 ∧ 1 ≤ m) ∨ (Lib.hasSuffix (L.take m) [13] = false ∧ bodyLen L = m)) := by
  have hs := suffix_one.1 h
  have hpos : 0 < L.length := List.length_pos_iff.2 hs.1
  refine ⟨L.length - 1, by omega, ?_⟩
  have htl : (L.take (L.length - 1)).length = L.length - 1 := by simp
  cases h2 : Lib.hasSuffix (L.take (L.length - 1)) [13]
  · refine .inr ⟨rfl, ?_⟩
    unfold bodyLen
    rw [if_neg]
    rintro ⟨h3, h4⟩
    have : Lib.hasSuffix (L.take (L.length - 1)) [13] = true := suffix_one.2 ⟨fun e => by rw [e] at htl; simp at htl; omega, by
      rw [htl, List.getElem?_take, if_pos (by omega)]; exact h4⟩
    rw [this] at h2; cases h2
  · have h3 := suffix_one.1 h2
    rw [htl, List.getElem?_take] at h3
    have h4 : 1 ≤ L.length - 1 := by
      rcases Nat.eq_zero_or_pos (L.length - 1) with h | h
      · exact absurd (by rw [h]; rfl) h3.1
      · exact h
    refine .inl ⟨rfl, ?_, h4⟩
    unfold bodyLen
    rw [if_pos ⟨by omega, by rw [if_pos (by omega)] at h3; exact h3.2⟩]
    omega
set_option maxHeartbeats 1000000 in
set_option maxRecDepth 100000 in
/-- words -/
theorem words_any (b o : Nat) (L : List UInt8) (cap : Nat) (w : World) (hE : Envs w) (hA : At w (some ⟨b, o, none⟩) L) (hlast : Lib.hasSuffix L [10] = true) (hc : L.length ≤ cap) (hl : L.length ≤ 512) :
    Calls Tryd.prog 16 #[.slice (some ⟨b, o, none⟩) L.length cap] w fun e w' => (∃ v, e = .returned v ∧ Hid (Worded w.heap.size w' L v)) ∧ Hid (Below w.heap.size w w') := by
  have hkc1 := Lib.run_convert_bytes_const (P := Tryd.prog) w 26 5 #[.int .u8 10] 1 1 Tryd.underlying26 Tryd.underlying5
  have hb1 := below_alloc w (.cells #[.int .u8 10] 5 (1, 2))
  have ho1 := at_one w 10 10 rfl
  simp only [List.size_toArray, List.length_cons, List.length_nil, Nat.zero_add, Nat.reduceAdd] at hkc1
  obtain ⟨W1, hW1⟩ : ∃ W1, W1 = w.alloc (.cells #[.int .u8 10] 5 (1, 2)) := ⟨_, rfl⟩
  rw [← hW1] at hkc1 hb1 ho1
  have hkc2 := Lib.run_convert_bytes_const (P := Tryd.prog) W1 26 5 #[.int .u8 13] 1 1 Tryd.underlying26 Tryd.underlying5
  have hb2 := below_alloc W1 (.cells #[.int .u8 13] 5 (1, 2))
  have ho2 := at_one W1 13 13 rfl
  simp only [List.size_toArray, List.length_cons, List.length_nil, Nat.zero_add, Nat.reduceAdd] at hkc2
  obtain ⟨W2, hW2⟩ : ∃ W2, W2 = W1.alloc (.cells #[.int .u8 13] 5 (1, 2)) := ⟨_, rfl⟩
  rw [← hW2] at hkc2 hb2 ho2
  clear hW1 hW2
  have hb12 := hb1.trans (hb2.mono hb1.size)
  obtain ⟨m, hm, hway⟩ := body_ways hlast
  have hA1 := hA.below hb1
  have hA2 := hA.below hb12
  have ht1 := trimSuffix_any cap 1 hA1 ho1 (by simp) hc (by omega)
  rw [hlast, if_pos rfl] at ht1
  rw [show L.length - [(10 : UInt8)].length = m by simp; omega] at ht1
  have htl : (L.take m).length = m := by simp; omega
  have ht2 := trimSuffix_any cap 1 (hA2.take m) ho2 (by simp) (by omega) (by omega)
  rw [htl] at ht2
  obtain ⟨n, hn, hnl⟩ : ∃ n, n = bodyLen L ∧ n ≤ L.length := ⟨_, rfl, bodyLen_le L⟩
  have hif : (if Lib.hasSuffix (L.take m) [13] = true then m - [(13 : UInt8)].length else m) = n := by
    rcases hway with ⟨h1, h2, h3⟩ | ⟨h1, h2⟩
    · rw [h1, if_pos rfl, hn, h2]; rfl
    · rw [h1, if_neg (by simp), hn, h2]
  rw [hif] at ht2
  have hnlen : (L.take n).length = n := by simp; omega
  have hf := fields_any b o (L.take n) cap W2 (hE.below hb12 hE.room) (hA2.take n) (by omega) (by omega)
  have hwd : fields (L.take n) = words L := by unfold words; rw [hn]
  rw [hnlen, hwd] at hf
  obtain ⟨Wd, hWd⟩ : ∃ Wd, Wd = words L := ⟨_, rfl⟩
  have HWo : Hid (∀ w' v, Worded w.heap.size w' L v ↔ (32 < Wd.length ∧ v = .tuple #[.slice none 0 0, .int .i64 30]) ∨ (Wd.length ≤ 32 ∧ ∃ A, v = .tuple #[.slice (some ⟨A, 0, none⟩) Wd.length Wd.length, .int .i64 0] ∧ Args w.heap.size w' (.slice (some ⟨A, 0, none⟩) Wd.length Wd.length) Wd)) := fun w' v => by rw [hWd]; exact Iff.rfl
  rw [← hWd] at hf
  have H1 := hid ht1
  have H2 := hid ht2
  have H3 := hid hf
  have HB := hid hb12
  have hml : m + 1 ≤ cap := by omega
  clear ht1 ht2 hf hb1 hb2 hb12 hA hA1 hA2 hE hway hif hn hwd hWd ho1 ho2 hlast htl hnlen hm
  go_enter Tryd.func16, Tryd.ntmps16
  go_wp2_with fail
  refine H1.out.mono ?_; rintro e w1 ⟨rfl, rfl⟩
  go_wp2_with fail
  refine H2.out.mono ?_; rintro e w2 ⟨rfl, rfl⟩
  go_wp2_with fail
  refine H3.out.mono ?_; rintro e w3 ⟨A, rfl, hP⟩
  have hp := hP.out
  have HB3 := hid (HB.out.trans (hp.2.mono HB.out.size))
  have HP := hid (hp.1.base HB.out.size)
  clear hp hP H1 H2 H3
  by_cases h32 : 32 < Wd.length
  · have hz : (32 : Int) < (Wd.length : Int) := by omega
    go_wp2
    go_ret2
    exact ⟨⟨_, rfl, (HWo.out _ _).2 (.inl ⟨h32, rfl⟩)⟩, HB3.out⟩
  · have hz : ¬ ((32 : Int) < (Wd.length : Int)) := by omega
    go_wp2
    go_ret2
    exact ⟨⟨_, rfl, (HWo.out _ _).2 (.inr ⟨by omega, A, rfl, HP.out⟩)⟩, HB3.out⟩

end Go.Proofs.YtjcegiponjpjiabDoor
