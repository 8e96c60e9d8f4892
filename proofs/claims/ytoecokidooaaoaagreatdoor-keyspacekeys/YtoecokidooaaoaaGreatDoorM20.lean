/- Body, Body2, DumpB, Dump, SizeT. -/
import Derived.Lib.AppendStr
import Derived.Test.YtoecokidooaaoaaGreatDoorM16
import Derived.Deep.RegionLaw
namespace Go.Proofs.YtoecokidooaaoaaGreatDoor
open Go.RowKit

set_option maxHeartbeats 4000000 in
set_option maxRecDepth 100000 in
theorem body_1 (t : Nm) (pp : Option Addr) (pc' : Nat) (ip : Option Addr) (ic : Nat) (w : World) (ht : t.length ≤ 4096) (hV : VI w ⟨1, t, [], [], 0, 0⟩ pp pc' ip ic) :
    Calls Tryz.prog 114 #[vv ⟨1, t, [], [], 0, 0⟩ pp pc' ip ic] w fun e w' => ∃ q d, e = .returned (.slice q (bodyV ⟨1, t, [], [], 0, 0⟩).length d) ∧ Hid (w'.ownsRow w.heap.size 5 1 (.slice q (bodyV ⟨1, t, [], [], 0, 0⟩).length d) (bodyV ⟨1, t, [], [], 0, 0⟩).length (Lib.byteCells (bodyV ⟨1, t, [], [], 0, 0⟩)) ∧ Below w.heap.size w w') := by
  have HV := hid hV
  clear hV
  have HB1 := hid (Txt.one (w.alloc (vob ⟨1, t, [], [], 0, 0⟩ pp pc' ip ic)) 1)
  rw [show (w.alloc (vob ⟨1, t, [], [], 0, 0⟩ pp pc' ip ic)).heap.size = w.heap.size + 1 by simp] at HB1
  obtain ⟨c0, c1, c2, c3, c4, c5⟩ := val_facts (box_kept HB1.out.bel)
  have wk : IntKind.u8.wrap (1 : Int) = 1 := rfl
  have HT := hid (fun W => text_any t W (by omega))
  have hb : bodyV ⟨1, t, [], [], 0, 0⟩ = [1] ++ tx t := rfl
  have hlx : (tx t).length ≤ 5000 := by simp [tx, two]; omega
  rw [hb]
  clear hb
  go_enter Tryz.func114, Tryz.ntmps114
  go_wp2_with fail
  refine (HT.out _).mono ?_; rintro e w1 ⟨rfl, hh⟩
  obtain ⟨v2, W2, hrun, h2⟩ := (HB1.out.go hh.out).str (tx t) (by simp; omega)
  obtain ⟨q, d, rfl⟩ := h2.shape
  have HR := hid hrun
  have H2 := hid h2
  clear hh hrun h2
  go_wp2_with (refine wpList_append_runs rfl _ _ 87 9 rfl _ _ _ _ rfl rfl HR.out (Hid.out ?_))
  refine hid ?_
  go_wp2_with fail
  go_ret
  exact ⟨q, d, rfl, ownsRow_base H2.out.own (by omega), box_below H2.out.bel⟩
set_option maxHeartbeats 4000000 in
set_option maxRecDepth 100000 in
theorem body_5 (x y : Int) (pp : Option Addr) (pc' : Nat) (ip : Option Addr) (ic : Nat) (w : World) (hr : rtP x y) (hV : VI w ⟨5, [], [], [], x, y⟩ pp pc' ip ic) :
    Calls Tryz.prog 114 #[vv ⟨5, [], [], [], x, y⟩ pp pc' ip ic] w fun e w' => ∃ q d, e = .returned (.slice q (bodyV ⟨5, [], [], [], x, y⟩).length d) ∧ Hid (w'.ownsRow w.heap.size 5 1 (.slice q (bodyV ⟨5, [], [], [], x, y⟩).length d) (bodyV ⟨5, [], [], [], x, y⟩).length (Lib.byteCells (bodyV ⟨5, [], [], [], x, y⟩)) ∧ Below w.heap.size w w') := by
  have HV := hid hV
  clear hV
  have HB1 := hid (Txt.one (w.alloc (vob ⟨5, [], [], [], x, y⟩ pp pc' ip ic)) 5)
  rw [show (w.alloc (vob ⟨5, [], [], [], x, y⟩ pp pc' ip ic)).heap.size = w.heap.size + 1 by simp] at HB1
  obtain ⟨c0, c1, c2, c3, c4, c5⟩ := val_facts (box_kept HB1.out.bel)
  have wk : IntKind.u8.wrap (5 : Int) = 5 := rfl
  obtain ⟨x0, x1, y0, y1⟩ := hr
  have HT := hid (fun W => part_any x W x0 x1)
  have HU := hid (fun W => part_any y W y0 y1)
  have hb : bodyV ⟨5, [], [], [], x, y⟩ = ([5] ++ part x) ++ part y := by show 5 :: (part x ++ part y) = _; simp
  have l1 : (part x).length = 4 := rfl
  have l2 : (part y).length = 4 := rfl
  obtain ⟨R, hR⟩ : ∃ R, R = bodyV ⟨5, [], [], [], x, y⟩ := ⟨_, rfl⟩
  rw [← hR]
  rw [← hR] at hb
  clear hR x0 x1 y0 y1
  generalize part x = P at *
  generalize part y = Q at *
  have HRb := hid hb
  clear hb
  go_enter Tryz.func114, Tryz.ntmps114
  go_wp2_with fail
  refine (HT.out _).mono ?_; rintro e w1 ⟨rfl, hh⟩
  obtain ⟨v2, W2, hrun, h2⟩ := (HB1.out.go hh.out).str P (by simp; omega)
  have hl : ([5] ++ P).length = 5 := by simp [l1]
  obtain ⟨q, d, rfl⟩ := h2.shape
  rw [hl] at hrun h2
  have HR := hid hrun
  have H2 := hid h2
  clear hh hrun h2
  go_wp2_with (refine wpList_append_runs rfl _ _ 87 9 rfl _ _ _ _ rfl rfl HR.out (Hid.out ?_))
  refine hid ?_
  clear c0 c1 c2 c3 c4 c5
  obtain ⟨c0, c1, c2, c3, c4, c5⟩ := val_facts (box_kept H2.out.bel)
  go_wp2_with fail
  refine (HU.out _).mono ?_; rintro e w3 ⟨rfl, hh⟩
  obtain ⟨v4, W4, hrun, h4⟩ := (H2.out.go hh.out).str Q (by simp; omega)
  rw [← HRb.out] at h4
  obtain ⟨q4, d4, rfl⟩ := h4.shape
  have HR4 := hid hrun
  have H4 := hid h4
  clear hh hrun h4
  go_wp2_with (refine wpList_append_runs rfl _ _ 87 9 rfl _ _ _ _ rfl rfl HR4.out (Hid.out ?_))
  refine hid ?_
  go_wp2_with fail
  go_ret
  exact ⟨q4, d4, rfl, ownsRow_base H4.out.own (by omega), box_below H4.out.bel⟩
set_option maxHeartbeats 4000000 in
set_option maxRecDepth 100000 in
theorem body_3 (is : List Nm) (pp : Option Addr) (pc' : Nat) (ip : Option Addr) (ic : Nat) (w : World) (hf : Fits is) (hV : VI w ⟨3, [], [], is, 0, 0⟩ pp pc' ip ic) :
    Calls Tryz.prog 114 #[vv ⟨3, [], [], is, 0, 0⟩ pp pc' ip ic] w fun e w' => ∃ q d, e = .returned (.slice q (bodyV ⟨3, [], [], is, 0, 0⟩).length d) ∧ Hid (w'.ownsRow w.heap.size 5 1 (.slice q (bodyV ⟨3, [], [], is, 0, 0⟩).length d) (bodyV ⟨3, [], [], is, 0, 0⟩).length (Lib.byteCells (bodyV ⟨3, [], [], is, 0, 0⟩)) ∧ Below w.heap.size w w') := by
  have HV := hid hV
  clear hV
  have HB1 := hid (Txt.one (w.alloc (vob ⟨3, [], [], is, 0, 0⟩ pp pc' ip ic)) 3)
  rw [show (w.alloc (vob ⟨3, [], [], is, 0, 0⟩ pp pc' ip ic)).heap.size = w.heap.size + 1 by simp] at HB1
  obtain ⟨c0, c1, c2, c3, c4, c5⟩ := val_facts (box_kept HB1.out.bel)
  have wk : IntKind.u8.wrap (3 : Int) = 3 := rfl
  obtain ⟨f1, f2, f3⟩ := hf
  have HFt := hid f1
  have HT := hid (fun (s : Nm) (hs : s.length ≤ 1024) W => text_any s W (by omega))
  have HN := hid (fun W => two_any is.length W (by omega))
  have hb : bodyV ⟨3, [], [], is, 0, 0⟩ = ([3] ++ two is.length) ++ is.flatMap tx := by show 3 :: (two is.length ++ is.flatMap tx) = _; simp
  obtain ⟨R, hR⟩ : ∃ R, R = bodyV ⟨3, [], [], is, 0, 0⟩ := ⟨_, rfl⟩
  rw [← hR]
  rw [← hR] at hb
  have HRb := hid hb
  clear hb hR f1
  have hlz : (is.length : Int) ≤ 256 := by omega
  have l1 : (two is.length).length = 2 := rfl
  have HL : Hid (∀ k, ((is.take k).flatMap tx).length ≤ 1026 * k) := flat_le HFt.out
  go_enter Tryz.func114, Tryz.ntmps114
  go_wp2_with fail
  refine (HN.out _).mono ?_; rintro e w1 ⟨rfl, hh⟩
  obtain ⟨v2, W2, hrun, h2⟩ := (HB1.out.go hh.out).str (two is.length) (by simp; omega)
  obtain ⟨q, d, rfl⟩ := h2.shape
  have HR := hid hrun
  have H2 := hid h2
  clear hh hrun h2
  go_wp2_with (refine wpList_append_runs rfl _ _ 87 9 rfl _ _ _ _ rfl rfl HR.out (Hid.out ?_))
  refine hid ?_
  clear c0 c1 c2 c3 c4 c5
  obtain ⟨c0, c1, c2, c3, c4, c5⟩ := val_facts (box_kept H2.out.bel)
  go_wp2_with fail
  go_loopw [3, 5] (fun v3 v5 W => ∃ (i : Nat) (q : Option Addr) (n d : Nat), v5 = .int .i64 i ∧ v3 = .slice q n d ∧ i ≤ is.length ∧ Hid (Txt (w.heap.size + 1) (w.alloc (vob ⟨3, [], [], is, 0, 0⟩ pp pc' ip ic)) W (.slice q n d) (([3] ++ two is.length) ++ (is.take i).flatMap tx))) (fun _ v5 _ => is.length - (intOf v5).toNat)
  case atStart => exact ⟨0, q, _, d, rfl, rfl, Nat.zero_le _, by rw [List.take_zero, List.flatMap_nil, List.append_nil]; exact H2.out⟩
  case round =>
    obtain ⟨i, q, n, d, rfl, rfl, hi, HO⟩ := hrel
    clear c0 c1 c2 c3 c4 c5
    obtain ⟨c0, c1, c2, c3, c4, c5⟩ := val_facts (box_kept HO.out.bel)
    by_cases hlt : i < is.length
    · have hiz : (i : Int) < (is.length : Int) := by omega
      have HVW := hid (HV.out.below (box_below HO.out.bel))
      obtain ⟨b, o, hip, hc⟩ := HVW.out.items.strs (fun e => by rw [show is = [] from e] at hlt; simp at hlt)
      have x0 := hc i hlt
      have HIn : Hid (is[i].length ≤ 1024) := HFt.out _ (List.getElem_mem hlt)
      have HS : Hid ((is.take (i + 1)).flatMap tx = (is.take i).flatMap tx ++ tx is[i]) := by
        rw [Hid, List.take_succ_eq_append_getElem hlt, List.flatMap_append]; simp
      subst hip
      dsimp only at x0
      have hl1 := HL.out i
      have HTi := hid (HT.out is[i] HIn.out)
      have HLt : Hid ((tx is[i]).length ≤ 1026) := by rw [Hid]; simp [tx, two]; have := HIn.out; omega
      generalize is[i] = t at *
      clear hc HVW
      go_wp2_with fail
      refine (HTi.out _).mono ?_; rintro e w3 ⟨rfl, hh⟩
      obtain ⟨v4, W4, hrun, h4⟩ := (HO.out.go hh.out).str (tx t) (by have := HLt.out; rw [List.length_append]; show 3 + _ + _ ≤ _; omega)
      rw [List.append_assoc, ← HS.out] at h4
      obtain ⟨q4, d4, rfl⟩ := h4.shape
      obtain ⟨N4, hN4⟩ : ∃ N4, N4 = (([3] ++ two is.length) ++ (is.take (i + 1)).flatMap tx).length := ⟨_, rfl⟩
      rw [← hN4] at h4 hrun
      clear hN4
      have HR4 := hid hrun
      have H4 := hid h4
      clear hh hrun h4
      go_wp2_with (refine wpList_append_runs rfl _ _ 87 9 rfl _ _ _ _ rfl rfl HR4.out (Hid.out ?_))
      refine hid ?_
      go_wp2_with fail
      exact ⟨⟨i + 1, q4, N4, d4, by go_num, rfl, by omega, H4.out⟩, by simp [intOf]; omega⟩
    · have hge : (is.length : Int) ≤ (i : Int) := by omega
      have HO2 : Hid (Txt (w.heap.size + 1) (w.alloc (vob ⟨3, [], [], is, 0, 0⟩ pp pc' ip ic)) wr (.slice q n d) R) := by
        rw [HRb.out]; have := HO.out; rwa [List.take_of_length_le (by omega)] at this
      obtain ⟨q', d', hsh⟩ := HO2.out.shape
      injection hsh with e1 e2 e3
      subst e1 e2 e3
      go_wp2_with fail
      go_ret
      exact ⟨q, d, rfl, ownsRow_base HO2.out.own (by omega), box_below HO2.out.bel⟩
set_option maxHeartbeats 4000000 in
set_option maxRecDepth 100000 in
theorem body_4 (is : List Nm) (pp : Option Addr) (pc' : Nat) (ip : Option Addr) (ic : Nat) (w : World) (hf : Fits is) (hV : VI w ⟨4, [], [], is, 0, 0⟩ pp pc' ip ic) :
    Calls Tryz.prog 114 #[vv ⟨4, [], [], is, 0, 0⟩ pp pc' ip ic] w fun e w' => ∃ q d, e = .returned (.slice q (bodyV ⟨4, [], [], is, 0, 0⟩).length d) ∧ Hid (w'.ownsRow w.heap.size 5 1 (.slice q (bodyV ⟨4, [], [], is, 0, 0⟩).length d) (bodyV ⟨4, [], [], is, 0, 0⟩).length (Lib.byteCells (bodyV ⟨4, [], [], is, 0, 0⟩)) ∧ Below w.heap.size w w') := by
  have HV := hid hV
  clear hV
  have HB1 := hid (Txt.one (w.alloc (vob ⟨4, [], [], is, 0, 0⟩ pp pc' ip ic)) 4)
  rw [show (w.alloc (vob ⟨4, [], [], is, 0, 0⟩ pp pc' ip ic)).heap.size = w.heap.size + 1 by simp] at HB1
  obtain ⟨c0, c1, c2, c3, c4, c5⟩ := val_facts (box_kept HB1.out.bel)
  have wk : IntKind.u8.wrap (4 : Int) = 4 := rfl
  obtain ⟨f1, f2, f3⟩ := hf
  have HFt := hid f1
  have HT := hid (fun (s : Nm) (hs : s.length ≤ 1024) W => text_any s W (by omega))
  have HN := hid (fun W => two_any is.length W (by omega))
  have hb : bodyV ⟨4, [], [], is, 0, 0⟩ = ([4] ++ two is.length) ++ is.flatMap tx := by show 4 :: (two is.length ++ is.flatMap tx) = _; simp
  obtain ⟨R, hR⟩ : ∃ R, R = bodyV ⟨4, [], [], is, 0, 0⟩ := ⟨_, rfl⟩
  rw [← hR]
  rw [← hR] at hb
  have HRb := hid hb
  clear hb hR f1
  have hlz : (is.length : Int) ≤ 256 := by omega
  have l1 : (two is.length).length = 2 := rfl
  have HL : Hid (∀ k, ((is.take k).flatMap tx).length ≤ 1026 * k) := flat_le HFt.out
  go_enter Tryz.func114, Tryz.ntmps114
  go_wp2_with fail
  refine (HN.out _).mono ?_; rintro e w1 ⟨rfl, hh⟩
  obtain ⟨v2, W2, hrun, h2⟩ := (HB1.out.go hh.out).str (two is.length) (by simp; omega)
  obtain ⟨q, d, rfl⟩ := h2.shape
  have HR := hid hrun
  have H2 := hid h2
  clear hh hrun h2
  go_wp2_with (refine wpList_append_runs rfl _ _ 87 9 rfl _ _ _ _ rfl rfl HR.out (Hid.out ?_))
  refine hid ?_
  clear c0 c1 c2 c3 c4 c5
  obtain ⟨c0, c1, c2, c3, c4, c5⟩ := val_facts (box_kept H2.out.bel)
  go_wp2_with fail
  go_loopw [3, 5] (fun v3 v5 W => ∃ (i : Nat) (q : Option Addr) (n d : Nat), v5 = .int .i64 i ∧ v3 = .slice q n d ∧ i ≤ is.length ∧ Hid (Txt (w.heap.size + 1) (w.alloc (vob ⟨4, [], [], is, 0, 0⟩ pp pc' ip ic)) W (.slice q n d) (([4] ++ two is.length) ++ (is.take i).flatMap tx))) (fun _ v5 _ => is.length - (intOf v5).toNat)
  case atStart => exact ⟨0, q, _, d, rfl, rfl, Nat.zero_le _, by rw [List.take_zero, List.flatMap_nil, List.append_nil]; exact H2.out⟩
  case round =>
    obtain ⟨i, q, n, d, rfl, rfl, hi, HO⟩ := hrel
    clear c0 c1 c2 c3 c4 c5
    obtain ⟨c0, c1, c2, c3, c4, c5⟩ := val_facts (box_kept HO.out.bel)
    by_cases hlt : i < is.length
    · have hiz : (i : Int) < (is.length : Int) := by omega
      have HVW := hid (HV.out.below (box_below HO.out.bel))
      obtain ⟨b, o, hip, hc⟩ := HVW.out.items.strs (fun e => by rw [show is = [] from e] at hlt; simp at hlt)
      have x0 := hc i hlt
      have HIn : Hid (is[i].length ≤ 1024) := HFt.out _ (List.getElem_mem hlt)
      have HS : Hid ((is.take (i + 1)).flatMap tx = (is.take i).flatMap tx ++ tx is[i]) := by
        rw [Hid, List.take_succ_eq_append_getElem hlt, List.flatMap_append]; simp
      subst hip
      dsimp only at x0
      have hl1 := HL.out i
      have HTi := hid (HT.out is[i] HIn.out)
      have HLt : Hid ((tx is[i]).length ≤ 1026) := by rw [Hid]; simp [tx, two]; have := HIn.out; omega
      generalize is[i] = t at *
      clear hc HVW
      go_wp2_with fail
      refine (HTi.out _).mono ?_; rintro e w3 ⟨rfl, hh⟩
      obtain ⟨v4, W4, hrun, h4⟩ := (HO.out.go hh.out).str (tx t) (by have := HLt.out; rw [List.length_append]; show 3 + _ + _ ≤ _; omega)
      rw [List.append_assoc, ← HS.out] at h4
      obtain ⟨q4, d4, rfl⟩ := h4.shape
      obtain ⟨N4, hN4⟩ : ∃ N4, N4 = (([4] ++ two is.length) ++ (is.take (i + 1)).flatMap tx).length := ⟨_, rfl⟩
      rw [← hN4] at h4 hrun
      clear hN4
      have HR4 := hid hrun
      have H4 := hid h4
      clear hh hrun h4
      go_wp2_with (refine wpList_append_runs rfl _ _ 87 9 rfl _ _ _ _ rfl rfl HR4.out (Hid.out ?_))
      refine hid ?_
      go_wp2_with fail
      exact ⟨⟨i + 1, q4, N4, d4, by go_num, rfl, by omega, H4.out⟩, by simp [intOf]; omega⟩
    · have hge : (is.length : Int) ≤ (i : Int) := by omega
      have HO2 : Hid (Txt (w.heap.size + 1) (w.alloc (vob ⟨4, [], [], is, 0, 0⟩ pp pc' ip ic)) wr (.slice q n d) R) := by
        rw [HRb.out]; have := HO.out; rwa [List.take_of_length_le (by omega)] at this
      obtain ⟨q', d', hsh⟩ := HO2.out.shape
      injection hsh with e1 e2 e3
      subst e1 e2 e3
      go_wp2_with fail
      go_ret
      exact ⟨q, d, rfl, ownsRow_base HO2.out.own (by omega), box_below HO2.out.bel⟩
end Go.Proofs.YtoecokidooaaoaaGreatDoor

namespace Go.Proofs.YtoecokidooaaoaaGreatDoor
open Go.RowKit

set_option maxHeartbeats 4000000 in
set_option maxRecDepth 100000 in
theorem body_2 (ps : List (Nm × Nm)) (pp : Option Addr) (pc' : Nat) (ip : Option Addr) (ic : Nat) (w : World) (hf : Fits (ps.map (·.1)) ∧ Fits (ps.map (·.2))) (hV : VI w ⟨2, [], ps, [], 0, 0⟩ pp pc' ip ic) :
    Calls Tryz.prog 114 #[vv ⟨2, [], ps, [], 0, 0⟩ pp pc' ip ic] w fun e w' => ∃ q d, e = .returned (.slice q (bodyV ⟨2, [], ps, [], 0, 0⟩).length d) ∧ Hid (w'.ownsRow w.heap.size 5 1 (.slice q (bodyV ⟨2, [], ps, [], 0, 0⟩).length d) (bodyV ⟨2, [], ps, [], 0, 0⟩).length (Lib.byteCells (bodyV ⟨2, [], ps, [], 0, 0⟩)) ∧ Below w.heap.size w w') := by
  have HV := hid hV
  clear hV
  have HB1 := hid (Txt.one (w.alloc (vob ⟨2, [], ps, [], 0, 0⟩ pp pc' ip ic)) 2)
  rw [show (w.alloc (vob ⟨2, [], ps, [], 0, 0⟩ pp pc' ip ic)).heap.size = w.heap.size + 1 by simp] at HB1
  obtain ⟨c0, c1, c2, c3, c4, c5⟩ := val_facts (box_kept HB1.out.bel)
  have wk : IntKind.u8.wrap (2 : Int) = 2 := rfl
  obtain ⟨⟨f1, f2, f3⟩, ⟨g1, _, _⟩⟩ := hf
  simp only [List.length_map] at f2 f3
  have HFt := hid f1
  have HGt := hid g1
  have HT := hid (fun (s : Nm) (hs : s.length ≤ 1024) W => text_any s W (by omega))
  have HN := hid (fun W => two_any ps.length W (by omega))
  have hb : bodyV ⟨2, [], ps, [], 0, 0⟩ = ([2] ++ two ps.length) ++ (flat ps).flatMap tx := by show 2 :: (two ps.length ++ (flat ps).flatMap tx) = _; simp
  obtain ⟨R, hR⟩ : ∃ R, R = bodyV ⟨2, [], ps, [], 0, 0⟩ := ⟨_, rfl⟩
  rw [← hR]
  rw [← hR] at hb
  have HRb := hid hb
  clear hb hR f1 g1
  have hlz : (ps.length : Int) ≤ 256 := by omega
  have HL : Hid (∀ k, k ≤ ps.length → ((flat (ps.take k)).flatMap tx).length ≤ 2052 * k) := flat_le2 HFt.out HGt.out
  go_enter Tryz.func114, Tryz.ntmps114
  go_wp2_with fail
  refine (HN.out _).mono ?_; rintro e w1 ⟨rfl, hh⟩
  obtain ⟨v2, W2, hrun, h2⟩ := (HB1.out.go hh.out).str (two ps.length) (by rw [two_len]; show 1 + 2 ≤ _; omega)
  obtain ⟨q, d, rfl⟩ := h2.shape
  have HR := hid hrun
  have H2 := hid h2
  clear hh hrun h2
  go_wp2_with (refine wpList_append_runs rfl _ _ 87 9 rfl _ _ _ _ rfl rfl HR.out (Hid.out ?_))
  refine hid ?_
  clear c0 c1 c2 c3 c4 c5
  obtain ⟨c0, c1, c2, c3, c4, c5⟩ := val_facts (box_kept H2.out.bel)
  go_wp2_with fail
  go_loopw [3, 4] (fun v3 v4 W => ∃ (i : Nat) (q : Option Addr) (n d : Nat), v4 = .int .i64 i ∧ v3 = .slice q n d ∧ i ≤ ps.length ∧ Hid (Txt (w.heap.size + 1) (w.alloc (vob ⟨2, [], ps, [], 0, 0⟩ pp pc' ip ic)) W (.slice q n d) (([2] ++ two ps.length) ++ (flat (ps.take i)).flatMap tx))) (fun _ v4 _ => ps.length - (intOf v4).toNat)
  case atStart => exact ⟨0, q, _, d, rfl, rfl, Nat.zero_le _, by
    rw [show (flat (ps.take 0)).flatMap tx = [] from rfl, List.append_nil]; exact H2.out⟩
  case round =>
    obtain ⟨i, q, n, d, rfl, rfl, hi, HO⟩ := hrel
    clear c0 c1 c2 c3 c4 c5
    obtain ⟨c0, c1, c2, c3, c4, c5⟩ := val_facts (box_kept HO.out.bel)
    by_cases hlt : i < ps.length
    · have hiz : (i : Int) < (ps.length : Int) := by omega
      have HVW := hid (HV.out.below (box_below HO.out.bel))
      obtain ⟨b, o, hip, hc⟩ := HVW.out.pairs.prs (fun e => by rw [show ps = [] from e] at hlt; simp at hlt)
      have x0 := (hc i hlt).1
      have HX1 := hid (hc i hlt).2
      have HIn : Hid (ps[i].1.length ≤ 1024) := HFt.out _ (List.mem_map_of_mem (f := (·.1)) (List.getElem_mem hlt))
      have HIm : Hid (ps[i].2.length ≤ 1024) := HGt.out _ (List.mem_map_of_mem (f := (·.2)) (List.getElem_mem hlt))
      have HS : Hid ((flat (ps.take (i + 1))).flatMap tx = (flat (ps.take i)).flatMap tx ++ tx ps[i].1 ++ tx ps[i].2) := flat_take_succ hlt
      have hbb : b < w.heap.size := by
        obtain ⟨b', o', h1, h2⟩ := HV.out.pairs.prs (fun e => by rw [show ps = [] from e] at hlt; simp at hlt)
        rw [hip] at h1
        injection h1 with h1
        injection h1 with h1 h3
        subst h1
        exact block_lt_of_cell (h2 i hlt).1
      subst hip
      dsimp only at x0
      have hl1 := HL.out i hi
      have HTi := hid (HT.out ps[i].1 HIn.out)
      have HUi := hid (HT.out ps[i].2 HIm.out)
      have HLt : Hid ((tx ps[i].1).length ≤ 1026) := by rw [Hid, tx_len]; have := HIn.out; omega
      have HLu : Hid ((tx ps[i].2).length ≤ 1026) := by rw [Hid, tx_len]; have := HIm.out; omega
      have hbw : b < wr.heap.size := block_lt_of_cell x0
      dsimp only at HX1
      generalize ps[i].1 = t at *
      generalize ps[i].2 = u at *
      clear hc HVW
      go_wp2_with fail
      refine (HTi.out _).mono ?_; rintro e w3 ⟨rfl, hh⟩
      obtain ⟨v4, W4, hrun, h4⟩ := (HO.out.go hh.out).str (tx t) (by have := HLt.out; rw [List.length_append]; show 3 + _ + _ ≤ _; omega)
      obtain ⟨q4, d4, rfl⟩ := h4.shape
      obtain ⟨N4, hN4⟩ : ∃ N4, N4 = (([2] ++ two ps.length) ++ (flat (ps.take i)).flatMap tx ++ tx t).length := ⟨_, rfl⟩
      rw [← hN4] at h4 hrun
      have hN5 : N4 ≤ 1000000 := by have := HLt.out; rw [hN4, List.length_append, List.length_append]; show 3 + _ + _ ≤ _; omega
      clear hN4
      have HR4 := hid hrun
      have H4 := hid h4
      have y1 := cell_turn HX1.out ((h4.bel.block b (by omega)).trans (HO.out.bel.block b (by omega)).symm)
      clear hh hrun h4 x0
      go_wp2_with (refine wpList_append_runs rfl _ _ 87 9 rfl _ _ _ _ rfl rfl HR4.out (Hid.out ?_))
      refine hid ?_
      clear c0 c1 c2 c3 c4 c5
      obtain ⟨c0, c1, c2, c3, c4, c5⟩ := val_facts (box_kept H4.out.bel)
      go_wp2_with fail
      refine (HUi.out _).mono ?_; rintro e w5 ⟨rfl, hh⟩
      obtain ⟨v6, W6, hrun, h6⟩ := (H4.out.go hh.out).str (tx u) (by have h1 := HLt.out; have h2 := HLu.out; rw [List.length_append, List.length_append]; show 3 + _ + _ + _ ≤ _; omega)
      rw [show ([2] ++ two ps.length) ++ (flat (ps.take i)).flatMap tx ++ tx t ++ tx u = ([2] ++ two ps.length) ++ (flat (ps.take (i + 1))).flatMap tx by rw [HS.out]; simp only [List.append_assoc]] at h6
      obtain ⟨q6, d6, rfl⟩ := h6.shape
      obtain ⟨N6, hN6⟩ : ∃ N6, N6 = (([2] ++ two ps.length) ++ (flat (ps.take (i + 1))).flatMap tx).length := ⟨_, rfl⟩
      rw [← hN6] at h6 hrun
      clear hN6
      have HR6 := hid hrun
      have H6 := hid h6
      clear hh hrun h6
      go_wp2_with (refine wpList_append_runs rfl _ _ 87 9 rfl _ _ _ _ rfl rfl HR6.out (Hid.out ?_))
      refine hid ?_
      go_wp2_with fail
      exact ⟨⟨i + 1, q6, N6, d6, by go_num, rfl, by omega, H6.out⟩, by simp [intOf]; omega⟩
    · have hge : (ps.length : Int) ≤ (i : Int) := by omega
      have HO2 : Hid (Txt (w.heap.size + 1) (w.alloc (vob ⟨2, [], ps, [], 0, 0⟩ pp pc' ip ic)) wr (.slice q n d) R) := by
        rw [HRb.out]; have := HO.out; rwa [List.take_of_length_le (by omega)] at this
      obtain ⟨q', d', hsh⟩ := HO2.out.shape
      injection hsh with e1 e2 e3
      subst e1 e2 e3
      go_wp2_with fail
      go_ret
      exact ⟨q, d, rfl, ownsRow_base HO2.out.own (by omega), box_below HO2.out.bel⟩
/-- ref body of a right value -/
theorem body_any (m : Vl) (hm : RtV m) (pp : Option Addr) (pc' : Nat) (ip : Option Addr) (ic : Nat) (w : World) (hV : VI w m pp pc' ip ic) :
    Calls Tryz.prog 114 #[vv m pp pc' ip ic] w fun e w' => ∃ q d, e = .returned (.slice q (bodyV m).length d) ∧ Hid (w'.ownsRow w.heap.size 5 1 (.slice q (bodyV m).length d) (bodyV m).length (Lib.byteCells (bodyV m)) ∧ Below w.heap.size w w') := by
  obtain ⟨k, t, ps, is, x, y⟩ := m
  obtain ⟨q1, q2, q3, q5, kk, f1, f2, f3, f4, f5⟩ := hm
  dsimp only at *
  rcases (show k = 1 ∨ k = 2 ∨ k = 3 ∨ k = 4 ∨ k = 5 by omega) with rfl | rfl | rfl | rfl | rfl
  · obtain ⟨rfl, rfl⟩ := q5 (by decide)
    obtain rfl := q2 (by decide)
    obtain rfl := q3 (by decide) (by decide)
    exact body_1 t pp pc' ip ic w (f1 rfl) hV
  · obtain ⟨rfl, rfl⟩ := q5 (by decide)
    obtain rfl := q1 (by decide)
    obtain rfl := q3 (by decide) (by decide)
    exact body_2 ps pp pc' ip ic w ⟨(f2 rfl).1, (f2 rfl).2.2⟩ hV
  · obtain ⟨rfl, rfl⟩ := q5 (by decide)
    obtain rfl := q1 (by decide)
    obtain rfl := q2 (by decide)
    exact body_3 is pp pc' ip ic w (f3 rfl) hV
  · obtain ⟨rfl, rfl⟩ := q5 (by decide)
    obtain rfl := q1 (by decide)
    obtain rfl := q2 (by decide)
    exact body_4 is pp pc' ip ic w (f4 rfl).1 hV
  · obtain rfl := q1 (by decide)
    obtain rfl := q2 (by decide)
    obtain rfl := q3 (by decide) (by decide)
    exact body_5 x y pp pc' ip ic w (f5 rfl) hV

end Go.Proofs.YtoecokidooaaoaaGreatDoor

namespace Go.Proofs.YtoecokidooaaoaaGreatDoor
open Go.RowKit

end Go.Proofs.YtoecokidooaaoaaGreatDoor

namespace Go.Proofs.YtoecokidooaaoaaGreatDoor
open Go.RowKit

set_option maxHeartbeats 2000000 in
set_option maxRecDepth 100000 in
/-- ref Dump -/
theorem rdump_any (m : Vl) (pp : Option Addr) (pc' : Nat) (ip : Option Addr) (ic : Nat) (w : World) (hS : Short m) (hV : VI w m pp pc' ip ic) :
    Calls Tryz.prog 95 #[vv m pp pc' ip ic] w fun e w' => e = .returned (.tuple #[txt (dumpS m), .bool (rightB m)]) ∧ Hid (Below w.heap.size w w') := by
  have HB := hid (below_alloc w (vob m pp pc' ip ic))
  have HX := hid (val_new w m pp pc' ip ic)
  have HVI := hid hV
  have HR := hid (fun W h => rright10_any m pp pc' ip ic W hS h)
  obtain ⟨c0, c1, c2, c3, c4, c5⟩ := val_facts HX.out
  by_cases h : rightB m = true
  · have HBo := hid (fun W h' => body_any m (rightB_iff.1 h) pp pc' ip ic W h')
    rw [show dumpS m = dumpV m from if_pos h]
    rw [h] at HR ⊢
    have hmax := body_max (rightB_iff.1 h)
    have HSm := hid (fun q d W hb => r1sum_any q d (bodyV m) W hb)
    have hslt := sumN_lt (bodyV m)
    have HT := hid (fun W => two_any (sumN (bodyV m)) W hslt)
    have hcat : (⟨(bodyV m).toArray⟩ ++ ⟨(two (sumN (bodyV m))).toArray⟩ : ByteArray) = ⟨(dumpV m).toArray⟩ := app_ba _ _
    have l2 := two_len (sumN (bodyV m))
    generalize dumpV m = D at *
    generalize two (sumN (bodyV m)) = T2 at *
    generalize sumN (bodyV m) = sm at *
    have hsz : (sm : Int) < 65536 := by omega
    have hwr : IntKind.i64.wrap (sm : Int) = (sm : Int) := by rw [IntKind.wrap_i64]; omega
    generalize bodyV m = Bd at *
    have hbz : (Bd.length : Int) ≤ 1000000 := by omega
    have n1 : ¬ 9223372036854775807 < Bd.length + T2.length := by omega
    have n2 : ¬ 9223372036854775807 < Bd.length + 2 := by omega
    clear h hS hV
    go_enter Tryz.func95, Tryz.ntmps95
    go_wp2_with fail
    refine (HR.out _ (HVI.out.below HB.out)).mono ?_; rintro e w1 ⟨rfl, hh⟩
    have HX1 := hid ((hh.out.block w.heap.size (by simp)).trans HX.out)
    have HW1 := hid (HB.out.trans (hh.out.mono HB.out.size))
    clear hh c0 c1 c2 c3 c4 c5
    obtain ⟨c0, c1, c2, c3, c4, c5⟩ := val_facts HX1.out
    go_wp2_with fail
    refine (HBo.out _ (HVI.out.below HW1.out)).mono ?_; rintro e w2 ⟨q, d, rfl, hh⟩
    have HO2 := hid hh.out.1
    have HW2 := hid (HW1.out.trans (hh.out.2.mono HW1.out.size))
    clear hh c0 c1 c2 c3 c4 c5
    go_wp2_with fail
    refine (HSm.out q d _ (own_byts HO2.out (by omega))).mono ?_; rintro e w3 ⟨rfl, hw⟩
    rw [hw]; clear hw w3
    have HW2d := hid HW2.out.drew
    have cv0 := owns_string HO2.out
    have cv1 : (convert 87 9 (.slice q Bd.length d)).run Tryz.prog w2.drew = .ok (.string ⟨Bd.toArray⟩) w2.drew := owns_string (W := w2.drew) (B := w1.heap.size) HO2.out
    go_wp2_with fail
    go_region_law (first
      | (go_simp; go_at_call 115; refine (HT.out _).mono ?_; rintro e w4 ⟨rfl, hh⟩; have cv2 := owns_string (owns_below (W := w2.drew) HO2.out hh.out); have HW4 := hid (HW2d.out.trans (hh.out.mono HW2d.out.size)); clear hh))
    all_goals go_wp2_with fail
    all_goals go_ret2
    all_goals exact ⟨rfl, HW4.out⟩
  · have h' : rightB m = false := by simpa using h
    rw [show dumpS m = [] from if_neg h]
    rw [h'] at HR ⊢
    clear h h' hS hV
    go_enter Tryz.func95, Tryz.ntmps95
    go_wp2_with fail
    refine (HR.out _ (HVI.out.below HB.out)).mono ?_; rintro e w1 ⟨rfl, hh⟩
    have HW1 := hid (HB.out.trans (hh.out.mono HB.out.size))
    clear hh
    go_wp2_with fail
    go_ret2
    exact ⟨rfl, HW1.out⟩

end Go.Proofs.YtoecokidooaaoaaGreatDoor

namespace Go.Proofs.YtoecokidooaaoaaGreatDoor
open Go.RowKit

set_option maxHeartbeats 1000000 in
set_option maxRecDepth 100000 in
/-- ref Size -/
theorem rsize_any (m : Vl) (pp : Option Addr) (pc' : Nat) (ip : Option Addr) (ic : Nat) (w : World) (hS : Short m) (hV : VI w m pp pc' ip ic) :
    Calls Tryz.prog 73 #[vv m pp pc' ip ic] w fun e w' => e = .returned (.int .i64 ((dumpS m).length : Int)) ∧ Hid (Below w.heap.size w w') := by
  have HB := hid (below_alloc w (vob m pp pc' ip ic))
  have HX := hid (val_new w m pp pc' ip ic)
  have HD := hid (fun W h => rdump_any m pp pc' ip ic W hS h)
  have HVI := hid hV
  have hmx := dumpS_max m
  obtain ⟨c0, c1, c2, c3, c4, c5⟩ := val_facts HX.out
  generalize dumpS m = D at *
  generalize rightB m = R at *
  have hz : (D.length : Int) ≤ 1000002 := by omega
  clear hS hV hmx
  go_enter Tryz.func73, Tryz.ntmps73
  go_wp2_with fail
  refine (HD.out _ (HVI.out.below HB.out)).mono ?_; rintro e w1 ⟨rfl, hh⟩
  have HW1 := hid (HB.out.trans (hh.out.mono HB.out.size))
  clear hh
  go_wp2_with fail
  go_ret
  exact ⟨rfl, HW1.out⟩

end Go.Proofs.YtoecokidooaaoaaGreatDoor
