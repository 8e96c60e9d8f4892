/- The program's writing of a value, but the sum. -/
import Derived.Test.YtmjmdfenkhmfbabDoorWr
import Derived.Deep.RegionHeld3
namespace Go.Proofs.YtmjmdfenkhmfbabDoor
open Go.RowKit

/-- what appendValue tells -/
def Bodies (m : Vl) (pp : Option Addr) (pc' : Nat) (ip : Option Addr) (ic : Nat) (w : World) : Prop :=
  Calls Tryd.prog 14 #[.slice none 0 0, vv m pp pc' ip ic] w fun e w' => ∃ q d, e = .returned (.slice q (bodyV m).length d) ∧ Hid (w'.ownsRow w.heap.size 5 1 (.slice q (bodyV m).length d) (bodyV m).length (Lib.byteCells (bodyV m)) ∧ Below w.heap.size w w')
theorem body_start (w : World) (o : Obj) (c : UInt8) (x : Int) (hx : x = (c.toNat : Int)) :
    ∃ q d W', (Builtin.append_ #[41, 41] 41 #[.slice none 0 0, .slice (some ⟨w.heap.size + 1, 0, none⟩) 1 1]).run Tryd.prog ((w.alloc o).alloc (.cells #[.int .u8 x] 5)) = .ok (.slice q 1 d) W' ∧ Txt (w.heap.size + 1) (w.alloc o) W' (.slice q 1 d) [c] := by
  obtain ⟨v', W', h1, h2, h3⟩ := (Txt.nil (w.alloc o)).push c x hx (by simp)
  rw [show (w.alloc o).heap.size = w.heap.size + 1 by simp] at h1 h2
  obtain ⟨q, d, rfl⟩ := h2.shape
  exact ⟨q, d, W', h1, h2⟩
theorem bodies_of {m : Vl} {w w' : World} {o : Obj} {q : Option Addr} {N d : Nat} (h : Txt (w.heap.size + 1) (w.alloc o) w' (.slice q N d) (bodyV m)) : ∃ q' d', Ending.returned (.slice q N d) = .returned (.slice q' (bodyV m).length d') ∧ Hid (w'.ownsRow w.heap.size 5 1 (.slice q' (bodyV m).length d') (bodyV m).length (Lib.byteCells (bodyV m)) ∧ Below w.heap.size w w') := by
  obtain rfl := h.num
  exact ⟨q, d, rfl, ownsRow_base h.own (by omega), box_below h.bel⟩

set_option maxHeartbeats 4000000 in
set_option maxRecDepth 100000 in
theorem apv_1 (t : Nm) (ht : t.length ≤ 4096) (pp : Option Addr) (pc' : Nat) (ip : Option Addr) (ic : Nat) (w : World) (hV : VI w ⟨1, t, [], [], 0, 0⟩ pp pc' ip ic) : Bodies ⟨1, t, [], [], 0, 0⟩ pp pc' ip ic w := by
  have HV := hid hV
  clear hV
  obtain ⟨q1, d1, W1, hrun, h1⟩ := body_start w (vob ⟨1, t, [], [], 0, 0⟩ pp pc' ip ic) 1 1 rfl
  have HR1 := hid hrun
  have H1 := hid h1
  obtain ⟨c0, c1, c2, c3, c4, c5⟩ := val_facts (val_new w ⟨1, t, [], [], 0, 0⟩ pp pc' ip ic)
  have wk : IntKind.u8.wrap (1 : Int) = 1 := rfl
  clear hrun h1
  have HT := hid (fun W q d h => aptext_n t (by omega) (w.heap.size + 1) (w.alloc (vob ⟨1, t, [], [], 0, 0⟩ pp pc' ip ic)) W q 1 d [1] h (by decide))
  have htz : (t.length : Int) ≤ 4096 := by omega
  unfold Bodies
  go_enter Tryd.func14, Tryd.ntmps14
  go_wp2_with (refine wpList_append_runs rfl _ _ 41 41 rfl _ _ _ _ rfl rfl HR1.out (Hid.out ?_))
  refine hid ?_
  clear c0 c1 c2 c3 c4 c5
  obtain ⟨c0, c1, c2, c3, c4, c5⟩ := val_facts (box_kept H1.out.bel)
  go_wp2_with fail
  refine (HT.out _ _ _ H1.out).mono ?_; rintro e w2 ⟨q2, N2, d2, rfl, hh⟩
  have H2 := hid hh.out.1
  clear hh
  go_wp2_with fail
  go_ret
  exact bodies_of H2.out
set_option maxHeartbeats 4000000 in
set_option maxRecDepth 100000 in
theorem apv_5 (x y : Int) (hr : rtP x y) (pp : Option Addr) (pc' : Nat) (ip : Option Addr) (ic : Nat) (w : World) (hV : VI w ⟨5, [], [], [], x, y⟩ pp pc' ip ic) : Bodies ⟨5, [], [], [], x, y⟩ pp pc' ip ic w := by
  have HV := hid hV
  clear hV
  obtain ⟨q1, d1, W1, hrun, h1⟩ := body_start w (vob ⟨5, [], [], [], x, y⟩ pp pc' ip ic) 5 5 rfl
  have HR1 := hid hrun
  have H1 := hid h1
  obtain ⟨c0, c1, c2, c3, c4, c5⟩ := val_facts (val_new w ⟨5, [], [], [], x, y⟩ pp pc' ip ic)
  have wk : IntKind.u8.wrap (5 : Int) = 5 := rfl
  clear hrun h1
  have HT := hid (fun W q d h => apnum4_n x hr.1 hr.2.1 (w.heap.size + 1) (w.alloc (vob ⟨5, [], [], [], x, y⟩ pp pc' ip ic)) W q 1 d [5] h (by decide))
  have HU := hid (fun W q N d h => apnum4_n y hr.2.2.1 hr.2.2.2 (w.heap.size + 1) (w.alloc (vob ⟨5, [], [], [], x, y⟩ pp pc' ip ic)) W q N d ([5] ++ part x) h (by show 5 ≤ _; omega))
  have HE : Hid ([5] ++ part x ++ part y = bodyV ⟨5, [], [], [], x, y⟩) := by show _ = 5 :: (part x ++ part y); simp
  clear hr
  unfold Bodies
  go_enter Tryd.func14, Tryd.ntmps14
  go_wp2_with (refine wpList_append_runs rfl _ _ 41 41 rfl _ _ _ _ rfl rfl HR1.out (Hid.out ?_))
  refine hid ?_
  clear c0 c1 c2 c3 c4 c5
  obtain ⟨c0, c1, c2, c3, c4, c5⟩ := val_facts (box_kept H1.out.bel)
  go_wp2_with fail
  refine (HT.out _ _ _ H1.out).mono ?_; rintro e w2 ⟨q2, N2, d2, rfl, hh⟩
  have H2 := hid hh.out.1
  clear hh
  clear c0 c1 c2 c3 c4 c5
  obtain ⟨c0, c1, c2, c3, c4, c5⟩ := val_facts (box_kept H2.out.bel)
  go_wp2_with fail
  refine (HU.out _ _ _ _ H2.out).mono ?_; rintro e w3 ⟨q3, N3, d3, rfl, hh⟩
  have h3 := hh.out.1
  rw [HE.out] at h3
  have H3 := hid h3
  clear hh h3
  go_wp2_with fail
  go_ret
  exact bodies_of H3.out
set_option maxHeartbeats 4000000 in
set_option maxRecDepth 100000 in
theorem apv_3 (is : List Nm) (hf : Fits is) (pp : Option Addr) (pc' : Nat) (ip : Option Addr) (ic : Nat) (w : World) (hV : VI w ⟨3, [], [], is, 0, 0⟩ pp pc' ip ic) : Bodies ⟨3, [], [], is, 0, 0⟩ pp pc' ip ic w := by
  have HV := hid hV
  clear hV
  obtain ⟨q1, d1, W1, hrun, h1⟩ := body_start w (vob ⟨3, [], [], is, 0, 0⟩ pp pc' ip ic) 3 3 rfl
  have HR1 := hid hrun
  have H1 := hid h1
  obtain ⟨c0, c1, c2, c3, c4, c5⟩ := val_facts (val_new w ⟨3, [], [], is, 0, 0⟩ pp pc' ip ic)
  have wk : IntKind.u8.wrap (3 : Int) = 3 := rfl
  clear hrun h1
  obtain ⟨f1, f2, f3⟩ := hf
  have HFt := hid f1
  have HN := hid (fun W q d h => apnum2_n is.length (w.heap.size + 1) (w.alloc (vob ⟨3, [], [], is, 0, 0⟩ pp pc' ip ic)) W q 1 d [3] h (by decide))
  have HT := hid (fun W q N d T h hT s hs => aptext_n s hs (w.heap.size + 1) (w.alloc (vob ⟨3, [], [], is, 0, 0⟩ pp pc' ip ic)) W q N d T h hT)
  have HE : Hid (([3] ++ two is.length) ++ is.flatMap tx = bodyV ⟨3, [], [], is, 0, 0⟩) := by show _ = 3 :: (two is.length ++ is.flatMap tx); simp
  have HL : Hid (∀ k, ((is.take k).flatMap tx).length ≤ 1026 * k) := flat_le HFt.out
  have hlz : (is.length : Int) ≤ 256 := by omega
  clear f1
  unfold Bodies
  go_enter Tryd.func14, Tryd.ntmps14
  go_wp2_with (refine wpList_append_runs rfl _ _ 41 41 rfl _ _ _ _ rfl rfl HR1.out (Hid.out ?_))
  refine hid ?_
  clear c0 c1 c2 c3 c4 c5
  obtain ⟨c0, c1, c2, c3, c4, c5⟩ := val_facts (box_kept H1.out.bel)
  go_wp2_with fail
  refine (HN.out _ _ _ H1.out).mono ?_; rintro e w2 ⟨q2, N2, d2, rfl, hh⟩
  have H2 := hid hh.out.1
  clear hh
  clear c0 c1 c2 c3 c4 c5
  obtain ⟨c0, c1, c2, c3, c4, c5⟩ := val_facts (box_kept H2.out.bel)
  go_wp2_with fail
  go_loopw [0, 8, 56] (fun v0 _ v56 W => ∃ (i : Nat) (q : Option Addr) (n d : Nat), v56 = .int .i64 i ∧ v0 = .slice q n d ∧ i ≤ is.length ∧ Hid (Txt (w.heap.size + 1) (w.alloc (vob ⟨3, [], [], is, 0, 0⟩ pp pc' ip ic)) W (.slice q n d) (([3] ++ two is.length) ++ (is.take i).flatMap tx))) (fun _ _ v56 _ => is.length - (intOf v56).toNat)
  case atStart => exact ⟨0, q2, N2, d2, rfl, rfl, Nat.zero_le _, by rw [List.take_zero, List.flatMap_nil, List.append_nil]; exact H2.out⟩
  case round =>
    obtain ⟨i, q, n, d, rfl, rfl, hi, HO⟩ := hrel
    clear c0 c1 c2 c3 c4 c5
    obtain ⟨c0, c1, c2, c3, c4, c5⟩ := val_facts (box_kept HO.out.bel)
    by_cases hlt : i < is.length
    · have hiz : (i : Int) < (is.length : Int) := by omega
      have HVW := hid (HV.out.below (box_below HO.out.bel))
      obtain ⟨b, o, hip, hc⟩ := HVW.out.items.strs (fun e => by rw [show is = [] from e] at hlt; simp at hlt)
      have x0 := hc i hlt
      have HIn : Hid (is[i].length ≤ 1024) := HFt.out _ (List.getElem_mem hlt)
      have HS : Hid ((([3] ++ two is.length) ++ (is.take (i + 1)).flatMap tx) = (([3] ++ two is.length) ++ (is.take i).flatMap tx) ++ tx is[i]) := by
        rw [Hid, List.take_succ_eq_append_getElem hlt, List.flatMap_append]; simp
      subst hip
      dsimp only at x0
      have hl1 := HL.out i
      have HTi := hid (HT.out wr q n d _ HO.out (by rw [List.length_append]; show 3 + _ ≤ _; omega) is[i] (by have := HIn.out; omega))
      rw [← HS.out] at HTi
      generalize is[i] = t at *
      clear hc HVW
      go_wp2_with fail
      refine HTi.out.mono ?_; rintro e w3 ⟨q4, N4, d4, rfl, hh⟩
      have H4 := hid hh.out.1
      clear hh
      go_wp2_with fail
      exact ⟨⟨i + 1, q4, N4, d4, by go_num, rfl, by omega, H4.out⟩, by simp [intOf]; omega⟩
    · have hge : (is.length : Int) ≤ (i : Int) := by omega
      have HO2 : Hid (Txt (w.heap.size + 1) (w.alloc (vob ⟨3, [], [], is, 0, 0⟩ pp pc' ip ic)) wr (.slice q n d) (bodyV ⟨3, [], [], is, 0, 0⟩)) := by
        rw [← HE.out]; have := HO.out; rwa [List.take_of_length_le (by omega)] at this
      go_wp2_with fail
      go_ret
      exact bodies_of HO2.out
set_option maxHeartbeats 4000000 in
set_option maxRecDepth 100000 in
theorem apv_4 (is : List Nm) (hf : Fits is) (pp : Option Addr) (pc' : Nat) (ip : Option Addr) (ic : Nat) (w : World) (hV : VI w ⟨4, [], [], is, 0, 0⟩ pp pc' ip ic) : Bodies ⟨4, [], [], is, 0, 0⟩ pp pc' ip ic w := by
  have HV := hid hV
  clear hV
  obtain ⟨q1, d1, W1, hrun, h1⟩ := body_start w (vob ⟨4, [], [], is, 0, 0⟩ pp pc' ip ic) 4 4 rfl
  have HR1 := hid hrun
  have H1 := hid h1
  obtain ⟨c0, c1, c2, c3, c4, c5⟩ := val_facts (val_new w ⟨4, [], [], is, 0, 0⟩ pp pc' ip ic)
  have wk : IntKind.u8.wrap (4 : Int) = 4 := rfl
  clear hrun h1
  obtain ⟨f1, f2, f3⟩ := hf
  have HFt := hid f1
  have HN := hid (fun W q d h => apnum2_n is.length (w.heap.size + 1) (w.alloc (vob ⟨4, [], [], is, 0, 0⟩ pp pc' ip ic)) W q 1 d [4] h (by decide))
  have HT := hid (fun W q N d T h hT s hs => aptext_n s hs (w.heap.size + 1) (w.alloc (vob ⟨4, [], [], is, 0, 0⟩ pp pc' ip ic)) W q N d T h hT)
  have HE : Hid (([4] ++ two is.length) ++ is.flatMap tx = bodyV ⟨4, [], [], is, 0, 0⟩) := by show _ = 4 :: (two is.length ++ is.flatMap tx); simp
  have HL : Hid (∀ k, ((is.take k).flatMap tx).length ≤ 1026 * k) := flat_le HFt.out
  have hlz : (is.length : Int) ≤ 256 := by omega
  clear f1
  unfold Bodies
  go_enter Tryd.func14, Tryd.ntmps14
  go_wp2_with (refine wpList_append_runs rfl _ _ 41 41 rfl _ _ _ _ rfl rfl HR1.out (Hid.out ?_))
  refine hid ?_
  clear c0 c1 c2 c3 c4 c5
  obtain ⟨c0, c1, c2, c3, c4, c5⟩ := val_facts (box_kept H1.out.bel)
  go_wp2_with fail
  refine (HN.out _ _ _ H1.out).mono ?_; rintro e w2 ⟨q2, N2, d2, rfl, hh⟩
  have H2 := hid hh.out.1
  clear hh
  clear c0 c1 c2 c3 c4 c5
  obtain ⟨c0, c1, c2, c3, c4, c5⟩ := val_facts (box_kept H2.out.bel)
  go_wp2_with fail
  go_loopw [0, 8, 56] (fun v0 _ v56 W => ∃ (i : Nat) (q : Option Addr) (n d : Nat), v56 = .int .i64 i ∧ v0 = .slice q n d ∧ i ≤ is.length ∧ Hid (Txt (w.heap.size + 1) (w.alloc (vob ⟨4, [], [], is, 0, 0⟩ pp pc' ip ic)) W (.slice q n d) (([4] ++ two is.length) ++ (is.take i).flatMap tx))) (fun _ _ v56 _ => is.length - (intOf v56).toNat)
  case atStart => exact ⟨0, q2, N2, d2, rfl, rfl, Nat.zero_le _, by rw [List.take_zero, List.flatMap_nil, List.append_nil]; exact H2.out⟩
  case round =>
    obtain ⟨i, q, n, d, rfl, rfl, hi, HO⟩ := hrel
    clear c0 c1 c2 c3 c4 c5
    obtain ⟨c0, c1, c2, c3, c4, c5⟩ := val_facts (box_kept HO.out.bel)
    by_cases hlt : i < is.length
    · have hiz : (i : Int) < (is.length : Int) := by omega
      have HVW := hid (HV.out.below (box_below HO.out.bel))
      obtain ⟨b, o, hip, hc⟩ := HVW.out.items.strs (fun e => by rw [show is = [] from e] at hlt; simp at hlt)
      have x0 := hc i hlt
      have HIn : Hid (is[i].length ≤ 1024) := HFt.out _ (List.getElem_mem hlt)
      have HS : Hid ((([4] ++ two is.length) ++ (is.take (i + 1)).flatMap tx) = (([4] ++ two is.length) ++ (is.take i).flatMap tx) ++ tx is[i]) := by
        rw [Hid, List.take_succ_eq_append_getElem hlt, List.flatMap_append]; simp
      subst hip
      dsimp only at x0
      have hl1 := HL.out i
      have HTi := hid (HT.out wr q n d _ HO.out (by rw [List.length_append]; show 3 + _ ≤ _; omega) is[i] (by have := HIn.out; omega))
      rw [← HS.out] at HTi
      generalize is[i] = t at *
      clear hc HVW
      go_wp2_with fail
      refine HTi.out.mono ?_; rintro e w3 ⟨q4, N4, d4, rfl, hh⟩
      have H4 := hid hh.out.1
      clear hh
      go_wp2_with fail
      exact ⟨⟨i + 1, q4, N4, d4, by go_num, rfl, by omega, H4.out⟩, by simp [intOf]; omega⟩
    · have hge : (is.length : Int) ≤ (i : Int) := by omega
      have HO2 : Hid (Txt (w.heap.size + 1) (w.alloc (vob ⟨4, [], [], is, 0, 0⟩ pp pc' ip ic)) wr (.slice q n d) (bodyV ⟨4, [], [], is, 0, 0⟩)) := by
        rw [← HE.out]; have := HO.out; rwa [List.take_of_length_le (by omega)] at this
      go_wp2_with fail
      go_ret
      exact bodies_of HO2.out
set_option maxHeartbeats 4000000 in
set_option maxRecDepth 100000 in
theorem apv_2 (ps : List (Nm × Nm)) (hf : Fits (ps.map (·.1)) ∧ Fits (ps.map (·.2))) (pp : Option Addr) (pc' : Nat) (ip : Option Addr) (ic : Nat) (w : World) (hV : VI w ⟨2, [], ps, [], 0, 0⟩ pp pc' ip ic) : Bodies ⟨2, [], ps, [], 0, 0⟩ pp pc' ip ic w := by
  have HV := hid hV
  clear hV
  obtain ⟨q1, d1, W1, hrun, h1⟩ := body_start w (vob ⟨2, [], ps, [], 0, 0⟩ pp pc' ip ic) 2 2 rfl
  have HR1 := hid hrun
  have H1 := hid h1
  obtain ⟨c0, c1, c2, c3, c4, c5⟩ := val_facts (val_new w ⟨2, [], ps, [], 0, 0⟩ pp pc' ip ic)
  have wk : IntKind.u8.wrap (2 : Int) = 2 := rfl
  clear hrun h1
  obtain ⟨⟨f1, f2, f3⟩, ⟨g1, _, _⟩⟩ := hf
  simp only [List.length_map] at f2 f3
  have HFt := hid f1
  have HGt := hid g1
  have HN := hid (fun W q d h => apnum2_n ps.length (w.heap.size + 1) (w.alloc (vob ⟨2, [], ps, [], 0, 0⟩ pp pc' ip ic)) W q 1 d [2] h (by decide))
  have HT := hid (fun W q N d T h hT s hs => aptext_n s hs (w.heap.size + 1) (w.alloc (vob ⟨2, [], ps, [], 0, 0⟩ pp pc' ip ic)) W q N d T h hT)
  have HE : Hid (([2] ++ two ps.length) ++ (flat ps).flatMap tx = bodyV ⟨2, [], ps, [], 0, 0⟩) := by show _ = 2 :: (two ps.length ++ (flat ps).flatMap tx); simp
  have HL : Hid (∀ k, k ≤ ps.length → ((flat (ps.take k)).flatMap tx).length ≤ 2052 * k) := flat_le2 HFt.out HGt.out
  have hlz : (ps.length : Int) ≤ 256 := by omega
  clear f1 g1
  unfold Bodies
  go_enter Tryd.func14, Tryd.ntmps14
  go_wp2_with (refine wpList_append_runs rfl _ _ 41 41 rfl _ _ _ _ rfl rfl HR1.out (Hid.out ?_))
  refine hid ?_
  clear c0 c1 c2 c3 c4 c5
  obtain ⟨c0, c1, c2, c3, c4, c5⟩ := val_facts (box_kept H1.out.bel)
  go_wp2_with fail
  refine (HN.out _ _ _ H1.out).mono ?_; rintro e w2 ⟨q2, N2, d2, rfl, hh⟩
  have H2 := hid hh.out.1
  clear hh
  clear c0 c1 c2 c3 c4 c5
  obtain ⟨c0, c1, c2, c3, c4, c5⟩ := val_facts (box_kept H2.out.bel)
  go_wp2_with fail
  go_loopw [0, 6, 33] (fun v0 _ v33 W => ∃ (i : Nat) (q : Option Addr) (n d : Nat), v33 = .int .i64 i ∧ v0 = .slice q n d ∧ i ≤ ps.length ∧ Hid (Txt (w.heap.size + 1) (w.alloc (vob ⟨2, [], ps, [], 0, 0⟩ pp pc' ip ic)) W (.slice q n d) (([2] ++ two ps.length) ++ (flat (ps.take i)).flatMap tx))) (fun _ _ v33 _ => ps.length - (intOf v33).toNat)
  case atStart => exact ⟨0, q2, N2, d2, rfl, rfl, Nat.zero_le _, by rw [show (flat (ps.take 0)).flatMap tx = [] from rfl, List.append_nil]; exact H2.out⟩
  case round =>
    obtain ⟨i, q, n, d, rfl, rfl, hi, HO⟩ := hrel
    clear c0 c1 c2 c3 c4 c5
    obtain ⟨c0, c1, c2, c3, c4, c5⟩ := val_facts (box_kept HO.out.bel)
    by_cases hlt : i < ps.length
    · have hiz : (i : Int) < (ps.length : Int) := by omega
      have HVW := hid (HV.out.below (box_below HO.out.bel))
      obtain ⟨b, o, hip, hc⟩ := HVW.out.pairs.prs (fun e => by rw [show ps = [] from e] at hlt; simp at hlt)
      obtain ⟨x0, x1⟩ := hc i hlt
      have HIn : Hid (ps[i].1.length ≤ 1024) := HFt.out _ (List.mem_map_of_mem (f := (·.1)) (List.getElem_mem hlt))
      have HIm : Hid (ps[i].2.length ≤ 1024) := HGt.out _ (List.mem_map_of_mem (f := (·.2)) (List.getElem_mem hlt))
      have HS : Hid ((([2] ++ two ps.length) ++ (flat (ps.take (i + 1))).flatMap tx) = (([2] ++ two ps.length) ++ (flat (ps.take i)).flatMap tx) ++ tx ps[i].1 ++ tx ps[i].2) := by
        rw [Hid, flat_take_succ hlt]; simp only [List.append_assoc]
      dsimp only at x0 x1
      have hl1 := HL.out i hi
      have HLt : Hid ((tx ps[i].1).length ≤ 1026) := by rw [Hid, tx_len]; have := HIn.out; omega
      have HTi : Hid (∀ W, Txt (w.heap.size + 1) (w.alloc (vob ⟨2, [], ps, [], 0, 0⟩ pp pc' ip ic)) W (.slice q n d) (([2] ++ two ps.length) ++ (flat (ps.take i)).flatMap tx) → PutsN 31 #[.slice q n d, txt ps[i].1] (w.heap.size + 1) (w.alloc (vob ⟨2, [], ps, [], 0, 0⟩ pp pc' ip ic)) W ((([2] ++ two ps.length) ++ (flat (ps.take i)).flatMap tx) ++ tx ps[i].1)) := fun W h => HT.out W q n d (([2] ++ two ps.length) ++ (flat (ps.take i)).flatMap tx) h (by rw [List.length_append]; show 3 + _ ≤ _; omega) ps[i].1 (by have := HIn.out; omega)
      have HUi : Hid (∀ W q N d, Txt (w.heap.size + 1) (w.alloc (vob ⟨2, [], ps, [], 0, 0⟩ pp pc' ip ic)) W (.slice q N d) ((([2] ++ two ps.length) ++ (flat (ps.take i)).flatMap tx) ++ tx ps[i].1) → PutsN 31 #[.slice q N d, txt ps[i].2] (w.heap.size + 1) (w.alloc (vob ⟨2, [], ps, [], 0, 0⟩ pp pc' ip ic)) W ((([2] ++ two ps.length) ++ (flat (ps.take i)).flatMap tx) ++ tx ps[i].1 ++ tx ps[i].2)) := (fun W q N d h => HT.out W q N d ((([2] ++ two ps.length) ++ (flat (ps.take i)).flatMap tx) ++ tx ps[i].1) h (by have := HLt.out; rw [List.length_append, List.length_append]; show 3 + _ + _ ≤ _; omega) ps[i].2 (by have := HIm.out; omega))
      rw [← HS.out] at HUi
      generalize ps[i].1 = t at *
      generalize ps[i].2 = u at *
      clear hc HVW
      have hal := below_alloc wr (.cells #[txt t, txt u] 47)
      have HP := hid (heap_alloc_new wr (.cells #[txt t, txt u] 47))
      have HO1 := hid (HO.out.go hal)
      have HO1d : Hid (Txt (w.heap.size + 1) (w.alloc (vob ⟨2, [], ps, [], 0, 0⟩ pp pc' ip ic)) (wr.alloc (.cells #[txt t, txt u] 47)).drew (.slice q n d) (([2] ++ two ps.length) ++ (flat (ps.take i)).flatMap tx)) := HO1.out.go ((Below.refl _ _).drew)
      have y0 := cell_of_row _ wr.heap.size 0 _ _ _ HP.out
      have y1 := cell_of_row _ wr.heap.size 1 _ _ _ HP.out
      have y0d : (wr.alloc (.cells #[txt t, txt u] 47)).drew.cell? ⟨wr.heap.size, 0, none⟩ = some (txt t) := y0
      have y1d : (wr.alloc (.cells #[txt t, txt u] 47)).drew.cell? ⟨wr.heap.size, 1, none⟩ = some (txt u) := y1
      subst hip
      clear hal
      go_wp2_with fail
      go_region_held3 (fun w' => w'.cell? ⟨wr.heap.size, 0, none⟩ = some (txt t) ∧ w'.cell? ⟨wr.heap.size, 1, none⟩ = some (txt u))
        (first | exact ⟨y0, y1⟩ | exact ⟨y0d, y1d⟩ | exact ⟨z0, z1⟩ | go_keep)
        (first
          | (have _q := HX3.out; clear _q; go_at_call 31; refine (HUi.out _ _ _ _ HX3.out).mono ?_; rintro e w4 ⟨q4, N4, d4, rfl, hh⟩; have H4 := hid hh.out.1; have hp4 := hh.out.2 _ _ _ _ hp3 (by decide); have z0 := cell_of_row _ wr.heap.size 0 _ _ _ hp4; have z1 := cell_of_row _ wr.heap.size 1 _ _ _ hp4; clear hh)
          | (go_at_call 31; refine (HTi.out _ HO1d.out).mono ?_; rintro e w3 ⟨q3, N3, d3, rfl, hh⟩; have HX3 := hid hh.out.1; have hp3 := hh.out.2 _ _ _ _ (show (wr.alloc (.cells #[txt t, txt u] 47)).drew.heap[wr.heap.size]? = _ from HP.out) (by decide); have z0 := cell_of_row _ wr.heap.size 0 _ _ _ hp3; have z1 := cell_of_row _ wr.heap.size 1 _ _ _ hp3; clear hh))
      all_goals go_wp2_with fail
      all_goals exact ⟨⟨i + 1, q4, N4, d4, by go_num, rfl, by omega, H4.out⟩, by simp [intOf]; omega⟩
    · have hge : (ps.length : Int) ≤ (i : Int) := by omega
      have HO2 : Hid (Txt (w.heap.size + 1) (w.alloc (vob ⟨2, [], ps, [], 0, 0⟩ pp pc' ip ic)) wr (.slice q n d) (bodyV ⟨2, [], ps, [], 0, 0⟩)) := by
        rw [← HE.out]; have := HO.out; rwa [List.take_of_length_le (by omega)] at this
      go_wp2_with fail
      go_ret
      exact bodies_of HO2.out
/-- a right value is written -/
theorem apv_any (m : Vl) (hm : RtV m) (pp : Option Addr) (pc' : Nat) (ip : Option Addr) (ic : Nat) (w : World) (hV : VI w m pp pc' ip ic) : Bodies m pp pc' ip ic w := by
  obtain ⟨k, t, p, i, x, y⟩ := m
  obtain ⟨r1, r2, r3, r5, kk, f1, f2, f3, f4, f5⟩ := hm
  dsimp only at *
  rcases (show k = 1 ∨ k = 2 ∨ k = 3 ∨ k = 4 ∨ k = 5 by omega) with rfl | rfl | rfl | rfl | rfl
  · obtain rfl := r2 (by omega); obtain rfl := r3 (by omega) (by omega); obtain ⟨rfl, rfl⟩ := r5 (by omega)
    exact apv_1 t (f1 rfl) pp pc' ip ic w hV
  · obtain rfl := r1 (by omega); obtain rfl := r3 (by omega) (by omega); obtain ⟨rfl, rfl⟩ := r5 (by omega)
    exact apv_2 p ⟨(f2 rfl).1, (f2 rfl).2.2⟩ pp pc' ip ic w hV
  · obtain rfl := r1 (by omega); obtain rfl := r2 (by omega); obtain ⟨rfl, rfl⟩ := r5 (by omega)
    exact apv_3 i (f3 rfl) pp pc' ip ic w hV
  · obtain rfl := r1 (by omega); obtain rfl := r2 (by omega); obtain ⟨rfl, rfl⟩ := r5 (by omega)
    exact apv_4 i (f4 rfl).1 pp pc' ip ic w hV
  · obtain rfl := r1 (by omega); obtain rfl := r2 (by omega); obtain rfl := r3 (by omega) (by omega)
    exact apv_5 x y (f5 rfl) pp pc' ip ic w hV

end Go.Proofs.YtmjmdfenkhmfbabDoor
