/- One command by the document, where its line is none, or does not begin with a star: ref One. -/
import Derived.Test.YtjcegiponjpjiaaDoorRefBulk
import Derived.Test.YtjcegiponjpjiaaDoorNext1
namespace Go.Proofs.YtjcegiponjpjiaaDoor
open Go.RowKit

/-- what ref One tells -/
def OneTold (B : Nat) (W : World) (s : List UInt8) (a : Nat) (v : Value) : Prop := match one (s.drop a) with
  | .stop e => v = .agg #[.slice none 0 0, .int .i64 0, .int .i64 (errOf e)]
  | .got l r => ∃ p c, v = .agg #[.slice p l.length c, .int .i64 ((s.length - r.length : Nat) : Int), .int .i64 0] ∧ W.ownsRow B 9 1 (.slice p l.length c) l.length (l.map strV)
theorem oneTold_stop {B : Nat} {W : World} {s : List UInt8} {a : Nat} {e : Int} (h : one (s.drop a) = .stop e) {E : Int} (hE : E = errOf e) : OneTold B W s a (.agg #[.slice none 0 0, .int .i64 0, .int .i64 E]) := by
  unfold OneTold; rw [h, hE]
theorem own_shape {W : World} {B e size n : Nat} {v : Value} {xs : List Value} (h : W.ownsRow B e size v n xs) : ∃ p c, v = .slice p n c := by
  rcases h.2 with ⟨h, h0⟩ | ⟨g, cap, _, h, _⟩
  · exact ⟨none, 0, by rw [h, h0]⟩
  · exact ⟨_, _, h⟩
theorem owns_setRow {W : World} {B e size n g t : Nat} {v : Value} {xs : List Value} {old c : Array Value} (h : W.ownsRow B e size v n xs) (hg : W.heap[g]? = some (.cells old t (0, 0))) (ht : ¬ t = e) : (W.setRow g c).ownsRow B e size v n xs := by
  refine ⟨h.1, ?_⟩
  rcases h.2 with h | ⟨g', cap, cur, h1, h2, h3, h4⟩
  · exact .inl h
  · refine .inr ⟨g', cap, cur, h1, h2, ?_, h4⟩
    rw [setRow_other W g g' c (fun e => by
      subst e
      rw [h3] at hg
      injection hg with hg
      injection hg with _ hg
      exact ht hg.symm)]
    exact h3
set_option maxHeartbeats 1000000 in
set_option maxRecDepth 100000 in
theorem rone_none (s : List UInt8) (a : Nat) (w : World) (ha : a ≤ s.length) (hl : s.length ≤ 140737488300000) (h1 : lineAt (s.drop a) = none) :
    Calls Tryd.prog 19 #[.string ⟨s.toArray⟩, .int .i64 a] w fun e w' => ∃ v, e = .returned v ∧ Hid (OneTold w.heap.size w' s a v ∧ Below w.heap.size w w') := by
  have hdl : (s.drop a).length = s.length - a := by simp
  have HL := hid fun W => rline_any s a W ha (by omega)
  have hb := one_none h1
  have hlv := lineVal_none h1
  rw [hlv] at HL
  by_cases h5 : 512 ≤ s.length - a
  · have HT : Hid (∀ B W, OneTold B W s a (.agg #[.slice none 0 0, .int .i64 0, .int .i64 33])) := fun B W => oneTold_stop hb (by unfold noLine; rw [hdl, if_pos h5]; rfl)
    rw [if_pos h5] at HL
    clear hb hlv h1 hdl
    go_enter Tryd.func19, Tryd.ntmps19
    go_wp2_with fail
    refine (HL.out _).mono ?_; rintro e w1 ⟨rfl, rfl⟩
    go_wp2
    refine bodyPost_ret (v := .agg #[.slice none 0 0, .int .i64 0, .int .i64 33]) ?_ rfl ?_
    · exact ret_got rfl rfl (heap_alloc_new w _)
    · exact ⟨_, rfl, HT.out _ _, below_alloc w _⟩
  · have HT : Hid (∀ B W, OneTold B W s a (.agg #[.slice none 0 0, .int .i64 0, .int .i64 0])) := fun B W => oneTold_stop hb (by unfold noLine; rw [hdl, if_neg h5]; rfl)
    rw [if_neg h5] at HL
    clear hb hlv h1 hdl
    go_enter Tryd.func19, Tryd.ntmps19
    go_wp2_with fail
    refine (HL.out _).mono ?_; rintro e w1 ⟨rfl, rfl⟩
    go_wp2
    refine bodyPost_ret (v := .agg #[.slice none 0 0, .int .i64 0, .int .i64 0]) ?_ rfl ?_
    · exact ret_got rfl rfl (heap_alloc_new w _)
    · exact ⟨_, rfl, HT.out _ _, below_alloc w _⟩
/-- a line's text, cut out -/
theorem line_cut {s : List UInt8} {a k : Nat} (K : Nat) (hK : K = a + k + 1) (hKl : K ≤ s.length) : ∀ W, (Instr.slice 9 (.string ⟨s.toArray⟩) (some (.int .i64 (a : Int))) (some (.int .i64 (K : Int))) none).run Tryd.prog W = .ok (.string ⟨((s.drop a).take (k + 1)).toArray⟩) W := fun W => by
  have h := run_slice_string (P := Tryd.prog) W 9 ⟨s.toArray⟩ .i64 .i64 (a : Int) (K : Int) Tryd.underlying9 (by omega) (by omega) (by simp [ByteArray.size]; omega)
  rw [h]
  simp only [Int.toNat_natCast]
  rw [hK, Nat.add_assoc, extract_take]
set_option maxHeartbeats 1000000 in
set_option maxRecDepth 100000 in
theorem rone_words (s : List UInt8) (a k : Nat) (w : World) (hl : s.length ≤ 140737488300000) (h1 : lineAt (s.drop a) = some k) (h42 : ¬ (s.drop a).head? = some 42) :
    Calls Tryd.prog 19 #[.string ⟨s.toArray⟩, .int .i64 a] w fun e w' => ∃ v, e = .returned v ∧ Hid (OneTold w.heap.size w' s a v ∧ Below w.heap.size w w') := by
  have hdl : (s.drop a).length = s.length - a := by simp
  obtain ⟨hk1, hk5, _⟩ := line_last h1
  have hal : a < s.length := by omega
  have HL := hid fun W => rline_any s a W (by omega) (by omega)
  rw [lineVal_some h1] at HL
  have hone := one_words h1 h42
  obtain ⟨K, hK⟩ : ∃ K, K = a + k + 1 := ⟨_, rfl⟩
  rw [← hK] at HL
  have hKl : K ≤ s.length := by omega
  have hsl := line_cut K hK hKl
  have hll : ((s.drop a).take (k + 1)).length = k + 1 := by simp; omega
  have HP := hid fun W => rparts_any ((s.drop a).take (k + 1)) W (by omega) (by omega)
  have hdk : s.length - ((s.drop a).drop (k + 1)).length = K := by simp; omega
  have hKp : ((K : Int) == 0) = false := beq_eq_false_iff_ne.2 (by omega)
  have hb42 := byte_is hal 42 42 (by decide)
  rw [decide_eq_false (fun e => h42 (by rw [head_drop hal, e]))] at hb42
  have hb42' : ((((⟨s.toArray⟩ : ByteArray)[a]'(by simpa [ByteArray.size] using hal)).toNat : Int) != 42) = true := by simp [bne, hb42]
  obtain ⟨L, hL⟩ : ∃ L, L = (s.drop a).take (k + 1) := ⟨_, rfl⟩
  rw [← hL] at hsl HP hone
  obtain ⟨Wd, hWd⟩ : ∃ Wd, Wd = words L := ⟨_, rfl⟩
  rw [← hWd] at HP hone
  have HOne := hid hone
  have HD := hid hdk
  have HW0 := hid (below_alloc w (.cells #[.slice none 0 0, .int .i64 0, .int .i64 0] 47))
  have HZ0 : Hid ((w.alloc (.cells #[.slice none 0 0, .int .i64 0, .int .i64 0] 47)).heap[w.heap.size]? = some (.cells #[.slice none 0 0, .int .i64 0, .int .i64 0] 47 (0, 0))) := heap_alloc_new w _
  have haz : (a : Int) < (s.length : Int) := by omega
  clear hone hdk h1 h42 hL hWd hK hll hdl
  go_enter Tryd.func19, Tryd.ntmps19
  go_wp2_with fail
  refine (HL.out _).mono ?_; rintro e w1 ⟨rfl, rfl⟩
  go_wp2_with fail
  refine (HP.out _).mono ?_; rintro e w1 ⟨v, rfl, hh⟩
  obtain ⟨ho, hb⟩ := hh.out
  obtain ⟨p, c, rfl⟩ := own_shape ho
  have HO := hid ho
  have HW1 := hid (HW0.out.trans (hb.mono (by simp)))
  have HZ1 := hid ((hb.block w.heap.size (by simp)).trans HZ0.out)
  clear hh ho hb HL HP
  by_cases h32 : 32 < Wd.length
  · have HT : Hid (∀ B W, OneTold B W s a (.agg #[.slice none 0 0, .int .i64 0, .int .i64 30])) := fun B W => oneTold_stop (e := 30) (by rw [HOne.out, if_pos h32]) rfl
    have hz : (32 : Int) < (Wd.length : Int) := by omega
    clear HOne
    go_wp2_with (refine wpList_store_row rfl 47 _ _ rfl w.heap.size #[.slice none 0 0, .int .i64 0, .int .i64 30] rfl rfl 47 _ HZ1.out (infoGot _ _ _) rfl (oneG _ _ _ _ _) ?_)
    refine bodyPost_ret (v := .agg #[.slice none 0 0, .int .i64 0, .int .i64 30]) ?_ rfl ?_
    · exact ret_got rfl rfl (got_done _ _ _ HZ1.out HW1.out).1
    · exact ⟨_, rfl, HT.out _ _, (got_done _ _ _ HZ1.out HW1.out).2⟩
  · have hz : ¬ ((32 : Int) < (Wd.length : Int)) := by omega
    have HT : Hid (∀ B W, W.ownsRow B 9 1 (.slice p Wd.length c) Wd.length (Wd.map strV) → OneTold B W s a (.agg #[.slice p Wd.length c, .int .i64 (K : Int), .int .i64 0])) := fun B W h => by
      unfold OneTold
      rw [HOne.out, if_neg h32]
      exact ⟨p, c, by rw [HD.out], h⟩
    clear HOne
    go_wp2_with (refine wpList_store_row rfl 47 _ _ rfl w.heap.size #[.slice p Wd.length c, .int .i64 (K : Int), .int .i64 0] rfl rfl 47 _ HZ1.out (infoGot _ _ _) rfl (oneG _ _ _ _ _) ?_)
    refine bodyPost_ret (v := .agg #[.slice p Wd.length c, .int .i64 (K : Int), .int .i64 0]) ?_ rfl ?_
    · exact ret_got rfl rfl (got_done _ _ _ HZ1.out HW1.out).1
    · refine ⟨_, rfl, HT.out _ _ ?_, (got_done _ _ _ HZ1.out HW1.out).2⟩
      have := owns_setRow (c := #[.slice p Wd.length c, .int .i64 (K : Int), .int .i64 0]) HO.out HZ1.out (by decide)
      refine ⟨this.1, ?_⟩
      rcases this.2 with h | ⟨g, cap, cur, e1, e2, r⟩
      · exact .inl h
      · exact .inr ⟨g, cap, cur, e1, by have : w.heap.size + 1 ≤ g := by simpa using e2
                                        omega, r⟩

end Go.Proofs.YtjcegiponjpjiaaDoor
