/- The document's body: a right value's bytes, but the sum. -/
import Derived.Test.YtmjmdfenkhmfbaaDoorRefRight10
import Derived.Lib.AppendStr
namespace Go.Proofs.YtmjmdfenkhmfbaaDoor
open Go.RowKit

set_option maxHeartbeats 4000000 in
set_option maxRecDepth 100000 in
theorem body_1 (t : Nm) (pp : Option Addr) (pc' : Nat) (ip : Option Addr) (ic : Nat) (w : World) (ht : t.length ≤ 4096) (hV : VI w ⟨1, t, [], [], 0, 0⟩ pp pc' ip ic) :
    Calls Tryd.prog 36 #[vv ⟨1, t, [], [], 0, 0⟩ pp pc' ip ic] w fun e w' => ∃ q d, e = .returned (.slice q (bodyV ⟨1, t, [], [], 0, 0⟩).length d) ∧ Hid (w'.ownsRow w.heap.size 5 1 (.slice q (bodyV ⟨1, t, [], [], 0, 0⟩).length d) (bodyV ⟨1, t, [], [], 0, 0⟩).length (Lib.byteCells (bodyV ⟨1, t, [], [], 0, 0⟩)) ∧ Below w.heap.size w w') := by
  have HV := hid hV
  clear hV
  have HB1 := hid (Txt.one (w.alloc (vob ⟨1, t, [], [], 0, 0⟩ pp pc' ip ic)) 1)
  rw [show (w.alloc (vob ⟨1, t, [], [], 0, 0⟩ pp pc' ip ic)).heap.size = w.heap.size + 1 by simp] at HB1
  obtain ⟨c0, c1, c2, c3, c4, c5⟩ := val_facts (box_kept HB1.out.bel)
  have wk : IntKind.u8.wrap (1 : Int) = 1 := rfl
  have HT := hid (fun W => text_any t W (by omega))
  have hb : bodyV ⟨1, t, [], [], 0, 0⟩ = [1] ++ tx t := rfl
  have hlx : (tx t).length ≤ 5000 := by simp [tx, two]; omega
  rw [hb]
  clear hb
  go_enter Tryd.func36, Tryd.ntmps36
  go_wp2_with fail
  refine (HT.out _).mono ?_; rintro e w1 ⟨rfl, hh⟩
  obtain ⟨v2, W2, hrun, h2⟩ := (HB1.out.go hh.out).str (tx t) (by simp; omega)
  obtain ⟨q, d, rfl⟩ := h2.shape
  have HR := hid hrun
  have H2 := hid h2
  clear hh hrun h2
  go_wp2_with (refine wpList_append_runs rfl _ _ 40 9 rfl _ _ _ _ rfl rfl HR.out (Hid.out ?_))
  refine hid ?_
  go_wp2_with fail
  go_ret
  exact ⟨q, d, rfl, ownsRow_base H2.out.own (by omega), box_below H2.out.bel⟩
set_option maxHeartbeats 4000000 in
set_option maxRecDepth 100000 in
theorem body_5 (x y : Int) (pp : Option Addr) (pc' : Nat) (ip : Option Addr) (ic : Nat) (w : World) (hr : rtP x y) (hV : VI w ⟨5, [], [], [], x, y⟩ pp pc' ip ic) :
    Calls Tryd.prog 36 #[vv ⟨5, [], [], [], x, y⟩ pp pc' ip ic] w fun e w' => ∃ q d, e = .returned (.slice q (bodyV ⟨5, [], [], [], x, y⟩).length d) ∧ Hid (w'.ownsRow w.heap.size 5 1 (.slice q (bodyV ⟨5, [], [], [], x, y⟩).length d) (bodyV ⟨5, [], [], [], x, y⟩).length (Lib.byteCells (bodyV ⟨5, [], [], [], x, y⟩)) ∧ Below w.heap.size w w') := by
  have HV := hid hV
  clear hV
  have HB1 := hid (Txt.one (w.alloc (vob ⟨5, [], [], [], x, y⟩ pp pc' ip ic)) 5)
  rw [show (w.alloc (vob ⟨5, [], [], [], x, y⟩ pp pc' ip ic)).heap.size = w.heap.size + 1 by simp] at HB1
  obtain ⟨c0, c1, c2, c3, c4, c5⟩ := val_facts (box_kept HB1.out.bel)
  have wk : IntKind.u8.wrap (5 : Int) = 5 := rfl
  obtain ⟨x0, x1, y0, y1⟩ := hr
  have HT := hid (fun W => part_any x W x0 x1)
  have HU := hid (fun W => part_any y W y0 y1)
  have hb : bodyV ⟨5, [], [], [], x, y⟩ = ([5] ++ part x) ++ part y := by show 5 :: (part x ++ part y) = _; simp
  have l1 : (part x).length = 4 := rfl
  have l2 : (part y).length = 4 := rfl
  obtain ⟨R, hR⟩ : ∃ R, R = bodyV ⟨5, [], [], [], x, y⟩ := ⟨_, rfl⟩
  rw [← hR]
  rw [← hR] at hb
  clear hR x0 x1 y0 y1
  generalize part x = P at *
  generalize part y = Q at *
  have HRb := hid hb
  clear hb
  go_enter Tryd.func36, Tryd.ntmps36
  go_wp2_with fail
  refine (HT.out _).mono ?_; rintro e w1 ⟨rfl, hh⟩
  obtain ⟨v2, W2, hrun, h2⟩ := (HB1.out.go hh.out).str P (by simp; omega)
  have hl : ([5] ++ P).length = 5 := by simp [l1]
  obtain ⟨q, d, rfl⟩ := h2.shape
  rw [hl] at hrun h2
  have HR := hid hrun
  have H2 := hid h2
  clear hh hrun h2
  go_wp2_with (refine wpList_append_runs rfl _ _ 40 9 rfl _ _ _ _ rfl rfl HR.out (Hid.out ?_))
  refine hid ?_
  clear c0 c1 c2 c3 c4 c5
  obtain ⟨c0, c1, c2, c3, c4, c5⟩ := val_facts (box_kept H2.out.bel)
  go_wp2_with fail
  refine (HU.out _).mono ?_; rintro e w3 ⟨rfl, hh⟩
  obtain ⟨v4, W4, hrun, h4⟩ := (H2.out.go hh.out).str Q (by simp; omega)
  rw [← HRb.out] at h4
  obtain ⟨q4, d4, rfl⟩ := h4.shape
  have HR4 := hid hrun
  have H4 := hid h4
  clear hh hrun h4
  go_wp2_with (refine wpList_append_runs rfl _ _ 40 9 rfl _ _ _ _ rfl rfl HR4.out (Hid.out ?_))
  refine hid ?_
  go_wp2_with fail
  go_ret
  exact ⟨q4, d4, rfl, ownsRow_base H4.out.own (by omega), box_below H4.out.bel⟩
set_option maxHeartbeats 4000000 in
set_option maxRecDepth 100000 in
theorem body_3 (is : List Nm) (pp : Option Addr) (pc' : Nat) (ip : Option Addr) (ic : Nat) (w : World) (hf : Fits is) (hV : VI w ⟨3, [], [], is, 0, 0⟩ pp pc' ip ic) :
    Calls Tryd.prog 36 #[vv ⟨3, [], [], is, 0, 0⟩ pp pc' ip ic] w fun e w' => ∃ q d, e = .returned (.slice q (bodyV ⟨3, [], [], is, 0, 0⟩).length d) ∧ Hid (w'.ownsRow w.heap.size 5 1 (.slice q (bodyV ⟨3, [], [], is, 0, 0⟩).length d) (bodyV ⟨3, [], [], is, 0, 0⟩).length (Lib.byteCells (bodyV ⟨3, [], [], is, 0, 0⟩)) ∧ Below w.heap.size w w') := by
  have HV := hid hV
  clear hV
  have HB1 := hid (Txt.one (w.alloc (vob ⟨3, [], [], is, 0, 0⟩ pp pc' ip ic)) 3)
  rw [show (w.alloc (vob ⟨3, [], [], is, 0, 0⟩ pp pc' ip ic)).heap.size = w.heap.size + 1 by simp] at HB1
  obtain ⟨c0, c1, c2, c3, c4, c5⟩ := val_facts (box_kept HB1.out.bel)
  have wk : IntKind.u8.wrap (3 : Int) = 3 := rfl
  obtain ⟨f1, f2, f3⟩ := hf
  have HFt := hid f1
  have HT := hid (fun (s : Nm) (hs : s.length ≤ 1024) W => text_any s W (by omega))
  have HN := hid (fun W => two_any is.length W (by omega))
  have hb : bodyV ⟨3, [], [], is, 0, 0⟩ = ([3] ++ two is.length) ++ is.flatMap tx := by show 3 :: (two is.length ++ is.flatMap tx) = _; simp
  obtain ⟨R, hR⟩ : ∃ R, R = bodyV ⟨3, [], [], is, 0, 0⟩ := ⟨_, rfl⟩
  rw [← hR]
  rw [← hR] at hb
  have HRb := hid hb
  clear hb hR f1
  have hlz : (is.length : Int) ≤ 256 := by omega
  have l1 : (two is.length).length = 2 := rfl
  have HL : Hid (∀ k, ((is.take k).flatMap tx).length ≤ 1026 * k) := flat_le HFt.out
  go_enter Tryd.func36, Tryd.ntmps36
  go_wp2_with fail
  refine (HN.out _).mono ?_; rintro e w1 ⟨rfl, hh⟩
  obtain ⟨v2, W2, hrun, h2⟩ := (HB1.out.go hh.out).str (two is.length) (by simp; omega)
  obtain ⟨q, d, rfl⟩ := h2.shape
  have HR := hid hrun
  have H2 := hid h2
  clear hh hrun h2
  go_wp2_with (refine wpList_append_runs rfl _ _ 40 9 rfl _ _ _ _ rfl rfl HR.out (Hid.out ?_))
  refine hid ?_
  clear c0 c1 c2 c3 c4 c5
  obtain ⟨c0, c1, c2, c3, c4, c5⟩ := val_facts (box_kept H2.out.bel)
  go_wp2_with fail
  go_loopw [3, 5] (fun v3 v5 W => ∃ (i : Nat) (q : Option Addr) (n d : Nat), v5 = .int .i64 i ∧ v3 = .slice q n d ∧ i ≤ is.length ∧ Hid (Txt (w.heap.size + 1) (w.alloc (vob ⟨3, [], [], is, 0, 0⟩ pp pc' ip ic)) W (.slice q n d) (([3] ++ two is.length) ++ (is.take i).flatMap tx))) (fun _ v5 _ => is.length - (intOf v5).toNat)
  case atStart => exact ⟨0, q, _, d, rfl, rfl, Nat.zero_le _, by rw [List.take_zero, List.flatMap_nil, List.append_nil]; exact H2.out⟩
  case round =>
    obtain ⟨i, q, n, d, rfl, rfl, hi, HO⟩ := hrel
    clear c0 c1 c2 c3 c4 c5
    obtain ⟨c0, c1, c2, c3, c4, c5⟩ := val_facts (box_kept HO.out.bel)
    by_cases hlt : i < is.length
    · have hiz : (i : Int) < (is.length : Int) := by omega
      have HVW := hid (HV.out.below (box_below HO.out.bel))
      obtain ⟨b, o, hip, hc⟩ := HVW.out.items.strs (fun e => by rw [show is = [] from e] at hlt; simp at hlt)
      have x0 := hc i hlt
      have HIn : Hid (is[i].length ≤ 1024) := HFt.out _ (List.getElem_mem hlt)
      have HS : Hid ((is.take (i + 1)).flatMap tx = (is.take i).flatMap tx ++ tx is[i]) := by
        rw [Hid, List.take_succ_eq_append_getElem hlt, List.flatMap_append]; simp
      subst hip
      dsimp only at x0
      have hl1 := HL.out i
      have HTi := hid (HT.out is[i] HIn.out)
      have HLt : Hid ((tx is[i]).length ≤ 1026) := by rw [Hid]; simp [tx, two]; have := HIn.out; omega
      generalize is[i] = t at *
      clear hc HVW
      go_wp2_with fail
      refine (HTi.out _).mono ?_; rintro e w3 ⟨rfl, hh⟩
      obtain ⟨v4, W4, hrun, h4⟩ := (HO.out.go hh.out).str (tx t) (by have := HLt.out; rw [List.length_append]; show 3 + _ + _ ≤ _; omega)
      rw [List.append_assoc, ← HS.out] at h4
      obtain ⟨q4, d4, rfl⟩ := h4.shape
      obtain ⟨N4, hN4⟩ : ∃ N4, N4 = (([3] ++ two is.length) ++ (is.take (i + 1)).flatMap tx).length := ⟨_, rfl⟩
      rw [← hN4] at h4 hrun
      clear hN4
      have HR4 := hid hrun
      have H4 := hid h4
      clear hh hrun h4
      go_wp2_with (refine wpList_append_runs rfl _ _ 40 9 rfl _ _ _ _ rfl rfl HR4.out (Hid.out ?_))
      refine hid ?_
      go_wp2_with fail
      exact ⟨⟨i + 1, q4, N4, d4, by go_num, rfl, by omega, H4.out⟩, by simp [intOf]; omega⟩
    · have hge : (is.length : Int) ≤ (i : Int) := by omega
      have HO2 : Hid (Txt (w.heap.size + 1) (w.alloc (vob ⟨3, [], [], is, 0, 0⟩ pp pc' ip ic)) wr (.slice q n d) R) := by
        rw [HRb.out]; have := HO.out; rwa [List.take_of_length_le (by omega)] at this
      obtain ⟨q', d', hsh⟩ := HO2.out.shape
      injection hsh with e1 e2 e3
      subst e1 e2 e3
      go_wp2_with fail
      go_ret
      exact ⟨q, d, rfl, ownsRow_base HO2.out.own (by omega), box_below HO2.out.bel⟩
set_option maxHeartbeats 4000000 in
set_option maxRecDepth 100000 in
theorem body_4 (is : List Nm) (pp : Option Addr) (pc' : Nat) (ip : Option Addr) (ic : Nat) (w : World) (hf : Fits is) (hV : VI w ⟨4, [], [], is, 0, 0⟩ pp pc' ip ic) :
    Calls Tryd.prog 36 #[vv ⟨4, [], [], is, 0, 0⟩ pp pc' ip ic] w fun e w' => ∃ q d, e = .returned (.slice q (bodyV ⟨4, [], [], is, 0, 0⟩).length d) ∧ Hid (w'.ownsRow w.heap.size 5 1 (.slice q (bodyV ⟨4, [], [], is, 0, 0⟩).length d) (bodyV ⟨4, [], [], is, 0, 0⟩).length (Lib.byteCells (bodyV ⟨4, [], [], is, 0, 0⟩)) ∧ Below w.heap.size w w') := by
  have HV := hid hV
  clear hV
  have HB1 := hid (Txt.one (w.alloc (vob ⟨4, [], [], is, 0, 0⟩ pp pc' ip ic)) 4)
  rw [show (w.alloc (vob ⟨4, [], [], is, 0, 0⟩ pp pc' ip ic)).heap.size = w.heap.size + 1 by simp] at HB1
  obtain ⟨c0, c1, c2, c3, c4, c5⟩ := val_facts (box_kept HB1.out.bel)
  have wk : IntKind.u8.wrap (4 : Int) = 4 := rfl
  obtain ⟨f1, f2, f3⟩ := hf
  have HFt := hid f1
  have HT := hid (fun (s : Nm) (hs : s.length ≤ 1024) W => text_any s W (by omega))
  have HN := hid (fun W => two_any is.length W (by omega))
  have hb : bodyV ⟨4, [], [], is, 0, 0⟩ = ([4] ++ two is.length) ++ is.flatMap tx := by show 4 :: (two is.length ++ is.flatMap tx) = _; simp
  obtain ⟨R, hR⟩ : ∃ R, R = bodyV ⟨4, [], [], is, 0, 0⟩ := ⟨_, rfl⟩
  rw [← hR]
  rw [← hR] at hb
  have HRb := hid hb
  clear hb hR f1
  have hlz : (is.length : Int) ≤ 256 := by omega
  have l1 : (two is.length).length = 2 := rfl
  have HL : Hid (∀ k, ((is.take k).flatMap tx).length ≤ 1026 * k) := flat_le HFt.out
  go_enter Tryd.func36, Tryd.ntmps36
  go_wp2_with fail
  refine (HN.out _).mono ?_; rintro e w1 ⟨rfl, hh⟩
  obtain ⟨v2, W2, hrun, h2⟩ := (HB1.out.go hh.out).str (two is.length) (by simp; omega)
  obtain ⟨q, d, rfl⟩ := h2.shape
  have HR := hid hrun
  have H2 := hid h2
  clear hh hrun h2
  go_wp2_with (refine wpList_append_runs rfl _ _ 40 9 rfl _ _ _ _ rfl rfl HR.out (Hid.out ?_))
  refine hid ?_
  clear c0 c1 c2 c3 c4 c5
  obtain ⟨c0, c1, c2, c3, c4, c5⟩ := val_facts (box_kept H2.out.bel)
  go_wp2_with fail
  go_loopw [3, 5] (fun v3 v5 W => ∃ (i : Nat) (q : Option Addr) (n d : Nat), v5 = .int .i64 i ∧ v3 = .slice q n d ∧ i ≤ is.length ∧ Hid (Txt (w.heap.size + 1) (w.alloc (vob ⟨4, [], [], is, 0, 0⟩ pp pc' ip ic)) W (.slice q n d) (([4] ++ two is.length) ++ (is.take i).flatMap tx))) (fun _ v5 _ => is.length - (intOf v5).toNat)
  case atStart => exact ⟨0, q, _, d, rfl, rfl, Nat.zero_le _, by rw [List.take_zero, List.flatMap_nil, List.append_nil]; exact H2.out⟩
  case round =>
    obtain ⟨i, q, n, d, rfl, rfl, hi, HO⟩ := hrel
    clear c0 c1 c2 c3 c4 c5
    obtain ⟨c0, c1, c2, c3, c4, c5⟩ := val_facts (box_kept HO.out.bel)
    by_cases hlt : i < is.length
    · have hiz : (i : Int) < (is.length : Int) := by omega
      have HVW := hid (HV.out.below (box_below HO.out.bel))
      obtain ⟨b, o, hip, hc⟩ := HVW.out.items.strs (fun e => by rw [show is = [] from e] at hlt; simp at hlt)
      have x0 := hc i hlt
      have HIn : Hid (is[i].length ≤ 1024) := HFt.out _ (List.getElem_mem hlt)
      have HS : Hid ((is.take (i + 1)).flatMap tx = (is.take i).flatMap tx ++ tx is[i]) := by
        rw [Hid, List.take_succ_eq_append_getElem hlt, List.flatMap_append]; simp
      subst hip
      dsimp only at x0
      have hl1 := HL.out i
      have HTi := hid (HT.out is[i] HIn.out)
      have HLt : Hid ((tx is[i]).length ≤ 1026) := by rw [Hid]; simp [tx, two]; have := HIn.out; omega
      generalize is[i] = t at *
      clear hc HVW
      go_wp2_with fail
      refine (HTi.out _).mono ?_; rintro e w3 ⟨rfl, hh⟩
      obtain ⟨v4, W4, hrun, h4⟩ := (HO.out.go hh.out).str (tx t) (by have := HLt.out; rw [List.length_append]; show 3 + _ + _ ≤ _; omega)
      rw [List.append_assoc, ← HS.out] at h4
      obtain ⟨q4, d4, rfl⟩ := h4.shape
      obtain ⟨N4, hN4⟩ : ∃ N4, N4 = (([4] ++ two is.length) ++ (is.take (i + 1)).flatMap tx).length := ⟨_, rfl⟩
      rw [← hN4] at h4 hrun
      clear hN4
      have HR4 := hid hrun
      have H4 := hid h4
      clear hh hrun h4
      go_wp2_with (refine wpList_append_runs rfl _ _ 40 9 rfl _ _ _ _ rfl rfl HR4.out (Hid.out ?_))
      refine hid ?_
      go_wp2_with fail
      exact ⟨⟨i + 1, q4, N4, d4, by go_num, rfl, by omega, H4.out⟩, by simp [intOf]; omega⟩
    · have hge : (is.length : Int) ≤ (i : Int) := by omega
      have HO2 : Hid (Txt (w.heap.size + 1) (w.alloc (vob ⟨4, [], [], is, 0, 0⟩ pp pc' ip ic)) wr (.slice q n d) R) := by
        rw [HRb.out]; have := HO.out; rwa [List.take_of_length_le (by omega)] at this
      obtain ⟨q', d', hsh⟩ := HO2.out.shape
      injection hsh with e1 e2 e3
      subst e1 e2 e3
      go_wp2_with fail
      go_ret
      exact ⟨q, d, rfl, ownsRow_base HO2.out.own (by omega), box_below HO2.out.bel⟩
end Go.Proofs.YtmjmdfenkhmfbaaDoor
