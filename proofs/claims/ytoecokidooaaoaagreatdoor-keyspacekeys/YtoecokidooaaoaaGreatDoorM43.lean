/- KBegun, KBegun2, KAlive. -/
import Derived.Test.YtoecokidooaaoaaGreatDoorM41
namespace Go.Proofs.YtoecokidooaaoaaGreatDoor
open Go.RowKit

noncomputable def runL (room : Int) (ops : List OpK) : List EP × Int := ops.foldl (fun s o => (doL s.1 room s.2 o, doN s.2 o)) ([], 0)
theorem runL_take {room : Int} {ops : List OpK} {i : Nat} (h : i < ops.length) : runL room (ops.take (i + 1)) = (doL (runL room (ops.take i)).1 room (runL room (ops.take i)).2 ops[i], doN (runL room (ops.take i)).2 ops[i]) := by
  unfold runL
  rw [List.take_succ_eq_append_getElem h, List.foldl_append]
  rfl
theorem ret_beg {fn : Func} {p q s : Tmp} (h : fn.results = #[.tmp q, .cell p 26, .tmp s]) {tmps : Array Value} {w : World} {b : Nat} {x y z v v' : Value} (hp : tmps.getD p undef = .pointer (some ⟨b, 0, none⟩)) (hq : tmps.getD q undef = v) (hs : tmps.getD s undef = v') (hB : w.heap[b]? = some (.cells #[x, y, z] 26 (0, 0))) :
    (results fn tmps).run Tryz.prog w = .ok (.tuple #[v, .agg #[x, y, z], v']) w := by
  have hp' : tmps[p]?.getD undef = .pointer (some ⟨b, 0, none⟩) := by simpa using hp
  have hq' : tmps[q]?.getD undef = v := by simpa using hq
  have hs' : tmps[s]?.getD undef = v' := by simpa using hs
  simp [results, h, hp', hq', hs', asAddr, run_loadVar_row w b 26 26 #[x, y, z] (0, 0) _ hB Tryz.underlying26 rfl (infoRS _ rfl)]
/-- calls that can come in -/
structure Given (w : World) (p : Option Addr) (ops : List OpK) : Prop where
  at_ : Ops w p ops
  arg : ∀ o ∈ ops, Arg8 o.e
  lies : ∀ o ∈ ops, Lies (fun j => j < w.heap.size) w o.e
  len : ops.length ≤ 140737488351232
theorem Given.below {w w' : World} {p : Option Addr} {ops : List OpK} (h : Given w p ops) (k : Below w.heap.size w w') : Given w' p ops := ⟨h.at_.below k, h.arg, fun o ho => (h.lies o ho).keepB (Keep.of_below k) (fun _ hi _ => Nat.lt_of_lt_of_le hi k.size), h.len⟩
theorem few_of {ops : List OpK} (h : fewB ops = true) : ops.length ≤ 200 ∧ ∀ o ∈ ops, o.e.m.pairs.length ≤ 300 ∧ o.e.m.items.length ≤ 300 := by
  unfold fewB at h
  rw [Bool.and_eq_true, decide_eq_true_eq, List.all_eq_true] at h
  exact ⟨h.1, fun o ho => of_decide_eq_true (h.2 o ho)⟩
theorem ok_small {x : E8} (h : Arg8 x) (h1 : x.m.pairs.length ≤ 300) (h2 : x.m.items.length ≤ 300) : Ok8 x := ⟨h.key, ⟨by omega, by omega, h.came.text, h.came.names, h.came.values, h.came.texts⟩⟩
/-- a space and the document's, behind w -/
def Begun (B : Nat) (w : World) (b : Nat) (L : List EP) (room now : Int) (p : Option Addr) (c : Nat) (Q : Nat → Prop) (W : World) : Prop :=
  ∃ O A, Both B W b O A Q L room now p c L.length ∧ (∀ k, A k → w.heap.size ≤ k ∧ Q k) ∧ Below w.heap.size w W
set_option maxHeartbeats 8000000 in
set_option maxRecDepth 100000 in
theorem begun_few {B : Nat} (hB0 : 0 < B) (w : World) (hT : Tab w) (hB : B ≤ w.heap.size) (room : Int) (p : Option Addr) (ops : List OpK) (cp : Nat) (hG : Given w p ops) (hf : fewB ops = true) :
    Calls Tryz.prog 8 #[.int .i64 room, .slice p ops.length cp] w fun e w' => ∃ b q d, e = .returned (.tuple #[ptr b, sv q (runL room ops).1.length d room (runL room ops).2, .bool true]) ∧ Hid (Begun B w b (runL room ops).1 room (runL room ops).2 q d (fun _ => True) w') := by
  have HG := hid hG
  have HFw := hid (few_of hf)
  have hba0 := below_alloc w (sob none 0 0 0 0)
  have HB0 := hid hba0
  have H0 := hid (heap_alloc_new w (sob none 0 0 0 0))
  have HZ0 : Hid ((w.alloc (sob none 0 0 0 0)).heap.size = w.heap.size + 1) := by simp [Hid]
  have HN := hid (knew_any hB0 (w.alloc (sob none 0 0 0 0)) (hT.env hba0) (Nat.le_trans hB hba0.size) room)
  have HFe := hid (fun W (hb : Below w.heap.size w W) => few_any p ops cp W (hG.at_.below hb) (fun o ho => ⟨(hG.arg o ho).came.pairs, (hG.arg o ho).came.items⟩) hG.len)
  rw [hf] at HFe
  have hol := (few_of hf).1
  have holz : (ops.length : Int) ≤ 200 := by omega
  clear hT hG hba0 hf
  go_enter Tryz.func8, Tryz.ntmps8
  go_wp2_with fail
  refine HN.out.mono ?_; rintro e w1 ⟨b, rfl, hh⟩
  obtain ⟨O1, A1, hS1, hA1, hb1⟩ := hh.out
  have hba := below_alloc w1 (sob none 0 0 room 0)
  have HW2 := hid ((HB0.out.trans (hb1.mono HB0.out.size)).trans (hba.mono (by have := hb1.size; have := HZ0.out; omega)))
  have HS2 := hid (hS1.below hba)
  have HA2 : Hid (∀ k, A1 k → w.heap.size ≤ k ∧ k ≠ w.heap.size ∧ k ≠ w1.heap.size) := fun k hk => by
    have := hA1 k hk
    have := (hS1.lt k hk).2
    have := HZ0.out
    exact ⟨by omega, by omega, by omega⟩
  have HR2 := hid (heap_alloc_new w1 (sob none 0 0 room 0))
  have H02 := hid ((hba.block w.heap.size (by have := hb1.size; have := HZ0.out; omega)).trans ((hb1.block w.heap.size (by have := HZ0.out; omega)).trans H0.out))
  have hsw : w.heap.size < w1.heap.size := by have := hb1.size; have := HZ0.out; omega
  have HFe2 := hid (HFe.out _ HW2.out)
  have HZ2 : Hid ((w1.alloc (sob none 0 0 room 0)).heap.size = w1.heap.size + 1) := by simp [Hid]
  clear hh hS1 hA1 hb1 hba
  go_wp2_with fail
  refine HFe2.out.mono ?_; rintro e w3 ⟨rfl, hh⟩
  have HW3 := hid (HW2.out.trans (hh.out.mono (by have := HZ2.out; omega)))
  have HS3 := hid (HS2.out.below hh.out)
  have HR3 := hid ((hh.out.block w1.heap.size (by have := HZ2.out; omega)).trans HR2.out)
  have H03 := hid ((hh.out.block w.heap.size (by have := HZ2.out; omega)).trans H02.out)
  clear hh
  go_wp2_with fail
  go_loopw [29] (fun v29 W => ∃ (i : Nat) (q : Option Addr) (d : Nat), v29 = .int .i64 i ∧ i ≤ ops.length ∧ Hid (W.heap[w1.heap.size]? = some (.cells #[.slice q (runL room (ops.take i)).1.length d, .int .i64 room, .int .i64 (runL room (ops.take i)).2] 26 (0, 0))) ∧ Hid (W.heap[w.heap.size]? = some (.cells #[.slice none 0 0, .int .i64 0, .int .i64 0] 26 (0, 0))) ∧ Hid (Begun B w b (runL room (ops.take i)).1 room (runL room (ops.take i)).2 q d (fun j => j ≠ w.heap.size ∧ j ≠ w1.heap.size) W)) (fun v29 _ => ops.length - (intOf v29).toNat)
  case atStart => exact ⟨0, none, 0, rfl, Nat.zero_le _, HR3.out, H03.out, O1, A1, ⟨HS3.out, ⟨[], Rde.nilRow _ _, rfl⟩, rfl⟩, HA2.out, HW3.out⟩
  case round =>
    obtain ⟨i, q, d, rfl, hi, HRr, HR0, HBg⟩ := hrel
    have hnr : w1.heap.size < wr.heap.size := (Array.getElem?_eq_some_iff.1 HRr.out).1
    by_cases hlt : i < ops.length
    · have hiz : (i : Int) < (ops.length : Int) := by omega
      obtain ⟨O, A, hbo, hAk, hW⟩ := HBg.out
      obtain ⟨g, o, rfl, hgl, x0, x1, x2, x3, x4, x5, x6, x7, x8, x9⟩ := ((HG.out.at_).below hW).facts i hlt
      have HNx := hid (runL_take (room := room) hlt)
      have harg := HG.out.arg ops[i] (List.getElem_mem _)
      have hfw := HFw.out.2 ops[i] (List.getElem_mem _)
      have hly := HG.out.lies ops[i] (List.getElem_mem _)
      generalize ops[i] = op at *
      generalize runL room (ops.take i) = s at *
      obtain ⟨L, nw⟩ := s
      dsimp only at *
      have hba := below_alloc wr (.cells op.cells 52)
      have hno : ∀ k, k < w.heap.size → ¬ O k := fun k hk ho => by have := (hAk k (hbo.sp.sub k ho)).1; omega
      have hL1 : Lies (fun j => ¬ O j ∧ (j ≠ w.heap.size ∧ j ≠ w1.heap.size)) (wr.alloc (.cells op.cells 52)) op.e := (hly.keepB (Q := fun j => ¬ O j ∧ (j ≠ w.heap.size ∧ j ≠ w1.heap.size)) (Keep.of_below hW) (fun k hk _ => ⟨hno k hk, by omega, by omega⟩)).below hba
      have hb1 : Both B (wr.alloc (.cells op.cells 52)) b O A (fun j => j ≠ w.heap.size ∧ j ≠ w1.heap.size) L room nw q d L.length := by
        obtain ⟨k1, ⟨R, k2, k3⟩, k4⟩ := hbo
        exact ⟨k1.below hba, ⟨R, k2.below hba, k3⟩, k4⟩
      have HD := hid (does_any hb1 (fun j hj => by simp at hj; exact ⟨by omega, by omega⟩) op harg (ok_small harg hfw.1 hfw.2) hL1)
      have HRr1 := hid ((hba.block w1.heap.size hnr).trans HRr.out)
      have HR01 := hid ((hba.block w.heap.size (by omega)).trans HR0.out)
      have HX1 := hid (heap_alloc_new wr (.cells op.cells 52))
      have hsz1 : (wr.alloc (.cells op.cells 52)).heap.size = wr.heap.size + 1 := by simp
      have HSZ1 := hid hsz1
      have HWa := hid (hW.trans (hba.mono hW.size))
      have HNo1 : Hid (¬ O w1.heap.size ∧ ¬ O w.heap.size) := ⟨fun ho => (hAk _ (hbo.sp.sub _ ho)).2.2 rfl, fun ho => (hAk _ (hbo.sp.sub _ ho)).2.1 rfl⟩
      have HAk := hid hAk
      have HOw := hid hno
      obtain ⟨r0, r1, r2⟩ := sp_facts HRr1.out
      obtain ⟨u0, u1, u2, u3, u4, u5, u6, u7, u8, u9⟩ := op_facts HX1.out
      clear hbo hAk hW harg hfw hly hba hno hL1 hb1 HBg hsz1
      go_wp2_with fail
      refine HD.out.mono ?_; rintro e w5 ⟨q', d', rfl, hh⟩
      obtain ⟨O', A', hbo', hst'⟩ := hh.out
      generalize hL' : doL L room nw op = L' at *
      generalize hN' : doN nw op = nw' at *
      have hz5 : w1.heap.size < (wr.alloc (.cells op.cells 52)).heap.size ∧ w.heap.size < (wr.alloc (.cells op.cells 52)).heap.size := by have := HSZ1.out; exact ⟨by omega, by omega⟩
      have hR5 := (hst'.keep.block w1.heap.size hz5.1 HNo1.out.1).trans HRr1.out
      have h05 := (hst'.keep.block w.heap.size hz5.2 HNo1.out.2).trans HR01.out
      have hw5 : w1.heap.size < w5.heap.size := Nat.lt_of_lt_of_le hz5.1 hst'.keep.size
      have hw50 : w.heap.size < w5.heap.size := Nat.lt_of_lt_of_le hz5.2 hst'.keep.size
      obtain ⟨f0, f1, f2⟩ := sp_frozen hR5
      obtain ⟨s0, s1, s2⟩ := sp_facts hR5
      have HT5 := hid (heap_alloc_new w5 (sob q' L'.length d' room nw'))
      obtain ⟨t0, t1, t2⟩ := sp_facts HT5.out
      have hoB := set3_onlyB w5 w1.heap.size (.slice q' L'.length d') (.int .i64 room) (.int .i64 nw')
      have hR6 := set3_rs (.slice q' L'.length d') (.int .i64 room) (.int .i64 nw') hR5
      have h06 := (hoB.block w.heap.size (by omega)).trans h05
      have HE : Hid (∃ W6, W6 = (((w5.setCell ⟨w1.heap.size, 0, none⟩ (.slice q' L'.length d')).setCell ⟨w1.heap.size, 1, none⟩ (.int .i64 room)).setCell ⟨w1.heap.size, 2, none⟩ (.int .i64 nw')).alloc (sob q' L'.length d' room nw') ∧ Hid (W6.heap[w1.heap.size]? = some (.cells #[.slice q' L'.length d', .int .i64 room, .int .i64 nw'] 26 (0, 0))) ∧ Hid (W6.heap[w.heap.size]? = some (.cells #[.slice none 0 0, .int .i64 0, .int .i64 0] 26 (0, 0))) ∧ Hid (Begun B w b L' room nw' q' d' (fun j => j ≠ w.heap.size ∧ j ≠ w1.heap.size) W6)) := by
        generalize (((w5.setCell ⟨w1.heap.size, 0, none⟩ (.slice q' L'.length d')).setCell ⟨w1.heap.size, 1, none⟩ (.int .i64 room)).setCell ⟨w1.heap.size, 2, none⟩ (.int .i64 nw')) = W5 at hoB hR6 h06 ⊢
        have hba5 := below_alloc W5 (sob q' L'.length d' room nw')
        have hA' : ∀ k, A' k → w.heap.size ≤ k ∧ (k ≠ w.heap.size ∧ k ≠ w1.heap.size) := fun k hk => by
          rcases hst'.a k hk with h | h
          · exact HAk.out k h
          · have := HSZ1.out; exact ⟨by omega, by omega, by omega⟩
        obtain ⟨R, hR, hm⟩ := hbo'.doc
        refine ⟨_, rfl, (hba5.block _ (by have := hoB.size; omega)).trans hR6, (hba5.block _ (by have := hoB.size; omega)).trans h06, O', A', ⟨(hbo'.sp.turn (hoB.keep (P := fun k => k < B ∨ A' k) (fun h => ?_))).below hba5, ⟨R, (hR.keepB (Q := fun j => ¬ O' j ∧ (j ≠ w.heap.size ∧ j ≠ w1.heap.size)) (hoB.keep (fun h => h.2.2 rfl)) (fun _ _ h => h)).below hba5, hm⟩, rfl⟩, hA', ?_⟩
        · rcases h with h | h
          · omega
          · exact (hA' _ h).2.2 rfl
        · refine ⟨hba5.os.trans (hoB.os.trans (hst'.keep.os.trans HWa.out.os)), hba5.tape.trans (hoB.tape.trans (hst'.keep.tape.trans HWa.out.tape)), hba5.output.trans (hoB.output.trans (hst'.keep.output.trans HWa.out.output)), Nat.le_trans (by have := hoB.size; omega) hba5.size, fun k hk => ?_⟩
          exact (hba5.block k (by have := hoB.size; omega)).trans ((hoB.block k (by omega)).trans ((hst'.keep.block k (by omega) (HOw.out k hk)).trans (HWa.out.block k hk)))
      clear hh hbo' hst' hR5 h05 hoB hR6 h06 hz5 r0 r1 r2 u0 u1 u2 u3 u4 u5 u6 u7 u8 u9 x0 x1 x2 x3 x4 x5 x6 x7 x8 x9
      go_wp2_with fail
      obtain ⟨W6, eW, HRf, H0f, HF⟩ := HE.out
      rw [← eW]
      refine ⟨⟨i + 1, q', d', by go_num, by omega, ?_, H0f, ?_⟩, by simp [intOf]; omega⟩
      · rw [HNx.out]; exact HRf
      · rw [HNx.out]; exact HF
    · obtain rfl : i = ops.length := by omega
      rw [List.take_length] at HRr HBg
      obtain ⟨z0, z1, z2⟩ := sp_facts HRr.out
      obtain ⟨y0, y1, y2⟩ := sp_facts HR0.out
      obtain ⟨g0, g1, g2⟩ := sp_frozen HR0.out
      have HFin : Hid (∀ W W', Below wr.heap.size wr W → OnlyB w.heap.size W W' → Begun B w b (runL room ops).1 room (runL room ops).2 q d (fun _ => True) W') := fun W W' hb hoB => by
        obtain ⟨O, A, hbo, hA, hW⟩ := HBg.out
        obtain ⟨R, hR, hm⟩ := hbo.doc
        refine ⟨O, A, ⟨(hbo.sp.below hb).turn (hoB.keep (P := fun k => k < B ∨ A k) (fun h => ?_)), ⟨R, (hR.below hb).keepB (Q := fun j => ¬ O j ∧ True) (hoB.keep (fun h => h.2.1 rfl)) (fun _ _ h => ⟨h.1, trivial⟩), hm⟩, rfl⟩, fun k hk => ⟨(hA k hk).1, trivial⟩, ?_⟩
        · rcases h with h | h
          · omega
          · exact (hA _ h).2.1 rfl
        · exact ⟨hoB.os.trans (hb.os.trans hW.os), hoB.tape.trans (hb.tape.trans hW.tape), hoB.output.trans (hb.output.trans hW.output), Nat.le_trans (Nat.le_trans hW.size hb.size) (Nat.le_of_eq hoB.size.symm), fun k hk => (hoB.block k (by omega)).trans ((hb.block k (Nat.lt_of_lt_of_le hk hW.size)).trans (hW.block k hk))⟩
      go_wp2_with fail
      go_region
      all_goals go_wp2_with fail
      all_goals refine bodyPost_ret (v := .tuple #[ptr b, sv q (runL room ops).1.length d room (runL room ops).2, .bool true]) ?_ rfl ?_
      all_goals first
        | exact ret_beg rfl rfl rfl rfl (set3_rs _ _ _ HR0.out)
        | exact ⟨b, q, d, rfl, HFin.out _ _ (Below.refl _ _) (set3_onlyB _ _ _ _ _)⟩
        | exact ⟨b, q, d, rfl, HFin.out _ _ (Below.refl _ _).drew (set3_onlyB _ _ _ _ _)⟩
        | trace_state

end Go.Proofs.YtoecokidooaaoaaGreatDoor

namespace Go.Proofs.YtoecokidooaaoaaGreatDoor
open Go.RowKit

set_option maxHeartbeats 8000000 in
set_option maxRecDepth 100000 in
theorem begun_many {B : Nat} (hB0 : 0 < B) (w : World) (hT : Tab w) (hB : B ≤ w.heap.size) (room : Int) (p : Option Addr) (ops : List OpK) (cp : Nat) (hG : Given w p ops) (hf : fewB ops = false) :
    Calls Tryz.prog 8 #[.int .i64 room, .slice p ops.length cp] w fun e w' => e = .returned (.tuple #[.pointer none, sv none 0 0 room 0, .bool true]) ∧ Hid (Below w.heap.size w w') := by
  have hba0 := below_alloc w (sob none 0 0 0 0)
  have HB0 := hid hba0
  have H0 := hid (heap_alloc_new w (sob none 0 0 0 0))
  have HZ0 : Hid ((w.alloc (sob none 0 0 0 0)).heap.size = w.heap.size + 1) := by simp [Hid]
  have HN := hid (knew_any hB0 (w.alloc (sob none 0 0 0 0)) (hT.env hba0) (Nat.le_trans hB hba0.size) room)
  have HFe := hid (fun W (hb : Below w.heap.size w W) => few_any p ops cp W (hG.at_.below hb) (fun o ho => ⟨(hG.arg o ho).came.pairs, (hG.arg o ho).came.items⟩) hG.len)
  rw [hf] at HFe
  clear hT hG hba0 hf
  go_enter Tryz.func8, Tryz.ntmps8
  go_wp2_with fail
  refine HN.out.mono ?_; rintro e w1 ⟨b, rfl, hh⟩
  obtain ⟨O1, A1, hS1, hA1, hb1⟩ := hh.out
  have hba := below_alloc w1 (sob none 0 0 room 0)
  have HW2 := hid ((HB0.out.trans (hb1.mono HB0.out.size)).trans (hba.mono (by have := hb1.size; have := HZ0.out; omega)))
  have HR2 := hid (heap_alloc_new w1 (sob none 0 0 room 0))
  have H02 := hid ((hba.block w.heap.size (by have := hb1.size; have := HZ0.out; omega)).trans ((hb1.block w.heap.size (by have := HZ0.out; omega)).trans H0.out))
  have hsw : w.heap.size < w1.heap.size := by have := hb1.size; have := HZ0.out; omega
  have HFe2 := hid (HFe.out _ HW2.out)
  have HZ2 : Hid ((w1.alloc (sob none 0 0 room 0)).heap.size = w1.heap.size + 1) := by simp [Hid]
  clear hh hS1 hA1 hb1 hba
  go_wp2_with fail
  refine HFe2.out.mono ?_; rintro e w3 ⟨rfl, hh⟩
  have HW3 := hid (HW2.out.trans (hh.out.mono (by have := HZ2.out; omega)))
  have HR3 := hid ((hh.out.block w1.heap.size (by have := HZ2.out; omega)).trans HR2.out)
  have H03 := hid ((hh.out.block w.heap.size (by have := HZ2.out; omega)).trans H02.out)
  obtain ⟨z0, z1, z2⟩ := sp_facts HR3.out
  obtain ⟨y0, y1, y2⟩ := sp_facts H03.out
  obtain ⟨g0, g1, g2⟩ := sp_frozen H03.out
  have hw3 : w.heap.size < w3.heap.size := (Array.getElem?_eq_some_iff.1 H03.out).1
  have HFin : Hid (∀ W W', Below w3.heap.size w3 W → OnlyB w.heap.size W W' → Below w.heap.size w W') := fun W W' hb hoB =>
    ⟨hoB.os.trans (hb.os.trans HW3.out.os), hoB.tape.trans (hb.tape.trans HW3.out.tape), hoB.output.trans (hb.output.trans HW3.out.output), Nat.le_trans (Nat.le_trans HW3.out.size hb.size) (Nat.le_of_eq hoB.size.symm), fun k hk => (hoB.block k (by omega)).trans ((hb.block k (by omega)).trans (HW3.out.block k hk))⟩
  clear hh
  go_wp2_with fail
  go_region
  all_goals go_wp2_with fail
  all_goals refine bodyPost_ret (v := .tuple #[.pointer none, sv none 0 0 room 0, .bool true]) ?_ rfl ?_
  all_goals first
    | exact ret_beg rfl rfl rfl rfl (set3_rs _ _ _ H03.out)
    | exact ⟨rfl, HFin.out _ _ (Below.refl _ _) (set3_onlyB _ _ _ _ _)⟩
    | exact ⟨rfl, HFin.out _ _ (Below.refl _ _).drew (set3_onlyB _ _ _ _ _)⟩
    | trace_state

end Go.Proofs.YtoecokidooaaoaaGreatDoor

namespace Go.Proofs.YtoecokidooaaoaaGreatDoor
open Go.RowKit

def ab : Vl := ⟨1, [97, 98], [], [], 0, 0⟩
theorem rt_ab : RtV ab := rtv1 (by decide)
theorem right_ab : rightB ab = true := rightB_iff.2 rt_ab
theorem dump_ab : dumpS ab = dumpV ab := if_pos right_ab
theorem body_ab : bodyV ab = [1, 0, 2, 97, 98] := rfl
theorem came_ab : Came ab := ⟨by decide, by decide, by decide, (fun x hx => by cases hx), (fun x hx => by cases hx), (fun x hx => by cases hx), by decide, by decide, by decide⟩
abbrev fooN : Nm := [102, 111, 111]
def fooE : E8 := ⟨fooN, ab, none, 0, none, 0, 5⟩
theorem tk_foo : tkE (pr8 fooE) = 26 := by
  unfold tkE
  show 16 + 3 + (dumpS ab).length = 26
  rw [dump_ab, dump_len, body_ab]
  rfl
theorem put_foo : putEL [] 100 0 (pr8 fooE) = 0 := by
  unfold putEL
  rw [if_neg (show ¬ argBadP (pr8 fooE) 0 by unfold argBadP; decide), if_neg (show ¬ rightB (pr8 fooE).2.1 = false by rw [show (pr8 fooE).2.1 = ab from rfl, right_ab]; decide), if_neg]
  rw [tk_foo]
  rintro (⟨_, h⟩ | ⟨h, _⟩)
  · exact absurd h (by decide)
  · exact absurd h (by unfold memL; decide)
theorem putl_foo : putLL [] 100 0 (pr8 fooE) = [pr8 fooE] := by
  unfold putLL
  rw [if_pos put_foo]
  rfl
theorem get_foo : getL fooN [pr8 fooE] = some (pr8 fooE) := by
  unfold getL
  rw [List.find?_cons_of_pos]
  rfl
theorem mem_foo : memL [pr8 fooE] = 26 := by
  unfold memL
  rw [List.map_cons, List.map_nil, tk_foo]
  rfl
theorem slotOf_foo : slotOf fooN = 12182 := by kernel_rfl
theorem slot_foo : (slotL 12182 [pr8 fooE]).length = 1 := by
  unfold slotL
  rw [List.filter_cons_of_pos]
  · rfl
  · show ((slotOf fooN : Int) == 12182) = true
    rw [slotOf_foo]; rfl
theorem arg_foo : Arg8 fooE := ⟨by decide, came_ab, by decide, by decide, by unfold In64; decide⟩
theorem lies_foo (P : Nat → Prop) (w : World) : Lies P w fooE := ⟨⟨Rp.nilRow w, Rd.nilRow w⟩, fun h => absurd rfl h, fun h => absurd rfl h⟩
set_option maxHeartbeats 4000000 in
set_option maxRecDepth 100000 in
theorem alive_any {B : Nat} (hB0 : 0 < B) (w : World) (hT : Tab w) (hB : B ≤ w.heap.size) : Calls Tryz.prog 9 #[] w fun e w' => e = .returned (.bool true) ∧ Hid (Below w.heap.size w w') := by
  have HN := hid (knew_any hB0 w hT hB 100)
  have HP := hid (fun (W : World) b O A (h : Sp B W b O A [] 100 0) => sp_put h fooE arg_foo (lies_foo _ W))
  rw [put_foo, putl_foo] at HP
  have HG := hid (fun (W : World) b O A (h : Sp B W b O A [pr8 fooE] 100 0) => sp_get h fooN (by decide))
  rw [get_foo] at HG
  have HM := hid (fun (W : World) b O A (h : Sp B W b O A [pr8 fooE] 100 0) => sp_mem h)
  rw [mem_foo] at HM
  have HC := hid (fun (W : World) b O A (h : Sp B W b O A [pr8 fooE] 100 0) => sp_count h 12182 (by unfold In64; decide))
  rw [slot_foo] at HC
  clear hT
  go_enter Tryz.func9, Tryz.ntmps9
  go_wp2_with fail
  refine HN.out.mono ?_; rintro e w1 ⟨b, rfl, hh⟩
  obtain ⟨O1, A1, hS1, hA1, hb1⟩ := hh.out
  have HS1 := hid hS1
  have HA1 := hid hA1
  have HW1 := hid hb1
  clear hh hS1 hA1 hb1
  go_wp2_with fail
  refine (HP.out _ b O1 A1 HS1.out).mono ?_; rintro e w2 ⟨rfl, hh⟩
  obtain ⟨O2, A2, hS2, hst⟩ := hh.out
  have HS2 := hid hS2
  have HW2 : Hid (Below w.heap.size w w2) := ⟨hst.keep.os.trans HW1.out.os, hst.keep.tape.trans HW1.out.tape, hst.keep.output.trans HW1.out.output, Nat.le_trans HW1.out.size hst.keep.size, fun k hk => (hst.keep.block k (Nat.lt_of_lt_of_le hk HW1.out.size) (fun ho => by have := HA1.out k (HS1.out.sub k ho); omega)).trans (HW1.out.block k hk)⟩
  clear hh hS2 hst
  go_wp2_with fail
  refine (HG.out _ b O2 A2 HS2.out).mono ?_; rintro e w3 ⟨y, rfl, hh⟩
  obtain ⟨hy, -, hb3⟩ := hh.out
  obtain ⟨yk, ym, ypp, ypc, yip, yic, ye⟩ := y
  simp only [Option.getD_some, pr8, fooE, Prod.mk.injEq] at hy
  obtain ⟨rfl, rfl, rfl⟩ := hy
  have HS3 := hid (HS2.out.below hb3)
  have HW3 := hid (HW2.out.trans (hb3.mono HW2.out.size))
  clear hh hb3
  go_wp2_with fail
  refine (HM.out _ b O2 A2 (HS3.out.below (below_alloc w3 _))).mono ?_; rintro e w4 ⟨rfl, hh⟩
  have HS4 := hid ((HS3.out.below (below_alloc w3 _)).below hh.out)
  have HW4 := hid ((HW3.out.trans ((below_alloc w3 _).mono HW3.out.size)).trans (hh.out.mono (Nat.le_trans HW3.out.size (below_alloc w3 _).size)))
  clear hh
  go_wp2_with fail
  refine (HC.out _ b O2 A2 HS4.out).mono ?_; rintro e w5 ⟨rfl, hh⟩
  have HW5 := hid (HW4.out.trans (hh.out.mono HW4.out.size))
  clear hh
  go_wp2_with fail
  go_ret
  exact ⟨rfl, HW5.out⟩

end Go.Proofs.YtoecokidooaaoaaGreatDoor
