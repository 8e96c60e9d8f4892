/- The law RouteServes: where a command is served. -/
import Derived.Test.YtpmpndfinghlkaaDoorLawRt2
namespace Go.Proofs.YtpmpndfinghlkaaDoor
open Go.RowKit

theorem someB_not {L : List Bool} : ∀ {n : Nat}, someB L n = false → ∀ k, k < n → atB L k = false
  | 0, _, k, hk => by omega
  | n + 1, h, k, hk => by
    simp only [someB, Bool.or_eq_false_iff] at h
    by_cases e : k = n
    · subst e; exact h.2
    · exact someB_not h.1 k (by omega)
set_option maxHeartbeats 4000000 in
set_option maxRecDepth 100000 in
theorem serves_any (c : CaseV) (a : Option Addr) (ca : Nat) (h : Option Addr) (ch : Nat) (d : Option Addr) (cd : Nat) (w : World) (hE : Env w) (hC : CaseR w c a h d) (hN : CaseN c ca ch cd) :
    Calls Tryd.prog 6 #[.agg (caseCells c a ca h ch d cd)] w fun e w' => e = .returned (.bool true) ∧ Below w.heap.size w w' := by
  obtain ⟨w1, hw1⟩ : ∃ w1, w.alloc (.cells (caseCells c a ca h ch d cd) 25) = w1 := ⟨_, rfl⟩
  have hB1 : Below w.heap.size w w1 := by rw [← hw1]; exact below_alloc _ _
  have HB1 := hid hB1
  have HX : Hid (w1.heap[w.heap.size]? = some (.cells (caseCells c a ca h ch d cd) 25 (0, 0))) := by unfold Hid; rw [← hw1]; exact heap_alloc_new _ _
  have HD := hid (decide_all c w1 (hC.below hB1 (Nat.le_refl _)) hN)
  have HE := hid fun (W : World) (hb : Below w.heap.size w W) => hE.below hb hE.room
  have HRC := hid fun (W : World) (hW : W.heap[w.heap.size]? = some (.cells (caseCells c a ca h ch d cd) 25 (0, 0))) => read_case hW
  have HLs := hid (fun h0 => serves_is c h0)
  have HI := hid (infoCase c a ca h ch d cd)
  have HHd := hid fun (W : World) (hb : Below w.heap.size w W) => hC.held.below hb (Nat.le_refl _)
  obtain ⟨n, hn⟩ : ∃ n, c.slots.length = n := ⟨_, rfl⟩
  have hnz63 : (n : Int) ≤ 9223372036854775807 := by have := hN.slots; have := hN.ca; omega
  have hmz63 : (c.held.length : Int) ≤ 9223372036854775807 := by have := hN.held; have := hN.cd; omega
  rw [hn] at HLs HRC
  generalize decideV c = D at *
  generalize caseCells c a ca h ch d cd = CC at *
  have hz := infoDec
  clear hC hN hE hB1 hn
  go_enter Tryd.func6, Tryd.ntmps6
  go_upto_region 1 with fail
  clear hw1
  go_wp2_with (refine wpList_load_row rfl 25 _ rfl w.heap.size rfl 25 _ (0, 0) _ HX.out Tryd.underlying25 rfl HI.out ?_)
  refine HD.out.mono ?_; rintro e w2 ⟨rfl, hb⟩
  have HL := Lw.laid D ((hb.block _ (Array.getElem?_eq_some_iff.1 HX.out).1).trans HX.out) (HB1.out.trans (hb.mono HB1.out.size))
  have HZ := hid HL.1
  have HQ := hid HL.2
  clear hb HD HX HB1 HL
  go_upto_region 2 with (refine wpList_store_row rfl 28 _ _ rfl w2.heap.size (decCells D) rfl rfl 28 _ HZ.out (hz D) rfl (dec_one D) ?_)
  generalize (w2.alloc (.cells #[.int .i64 0, .int .i64 0, .int .i64 0, .int .i64 0] 28)).setRow w2.heap.size (decCells D) = w3 at *
  generalize w2.heap.size = b at *
  clear HZ
  have HA := hid (alive_any w3 (HE.out _ HQ.out.bel))
  obtain ⟨d0, -, -, -⟩ := HQ.out.cells
  obtain ⟨k0, k1, -, k3, k4, k5, k6, -, k8⟩ := HRC.out w3 HQ.out.box
  obtain ⟨dk, ds, dn, dt⟩ := D
  simp only at d0
  by_cases h1 : dk ≠ 1
  · have h1z : (dk != 1) = true := by simpa using h1
    clear h1 HLs
    go_wp2_with fail
    refine HA.out.mono ?_; rintro e w4 ⟨rfl, hb⟩
    have HQ4 := hid (HQ.out.go hb)
    clear hb
    go_wp2
    go_ret
    exact ⟨rfl, HQ4.out.bel⟩
  obtain rfl : dk = 1 := by simpa using h1
  clear h1
  by_cases h0 : n = 0
  · subst h0
    clear HLs
    go_wp2_with fail
    refine HA.out.mono ?_; rintro e w4 ⟨rfl, hb⟩
    have HQ4 := hid (HQ.out.go hb)
    clear hb
    go_wp2
    go_ret
    exact ⟨rfl, HQ4.out.bel⟩
  have h0z : ((n : Int) == 0) = false := beq_eq_false_iff_ne.2 (by omega)
  obtain ⟨hs1, hs2⟩ := HLs.out h0 rfl
  have HS1 := hid (someB_not hs1)
  have HS2 := hid hs2
  have HH := hid (HHd.out w3 HQ.out.bel)
  obtain ⟨m, hm⟩ : ∃ m, c.held.length = m := ⟨_, rfl⟩
  have HM := hid hm
  rw [hm] at k8 hmz63
  clear hs1 hs2 HLs HHd HRC h0 hm
  go_wp2_with fail
  go_loopw [4, 20] (fun _ v20 W => ∃ k : Nat, k ≤ n ∧ v20 = .int .i64 (k : Int) ∧ W = w3) (fun _ v20 _ => n - (intOf v20).toNat)
  case atStart => exact ⟨0, Nat.zero_le _, rfl, rfl⟩
  case round =>
    obtain ⟨k, hk, rfl, rfl⟩ := hrel
    by_cases hlt : k < n
    · have hlz : (k : Int) < (n : Int) := by omega
      have hat := HS1.out k hlt
      by_cases hkm : k < m
      · have hkmz : (k : Int) < (m : Int) := by omega
        obtain ⟨hb, ho, rfl, -, hcs⟩ := HH.out (fun e => by have := HM.out; rw [e] at this; simp at this; omega)
        have c0 := hcs k (by have := HM.out; omega)
        rw [atB_is (by have := HM.out; omega)] at hat
        rw [hat] at c0
        clear hcs hat
        go_wp2
        exact ⟨⟨k + 1, by omega, by go_num, by simp⟩, by simp [intOf]; omega⟩
      · have hkmz : ¬ (k : Int) < (m : Int) := by omega
        clear hat
        go_wp2
        exact ⟨⟨k + 1, by omega, by go_num, by simp⟩, by simp [intOf]; omega⟩
    · have hkn : k = n := by omega
      subst hkn
      go_wp2_with fail
      refine HA.out.mono ?_; rintro e w4 ⟨rfl, hb⟩
      have HQ4 := hid (HQ.out.go hb)
      have r0 := (hb.cell (p := ⟨w.heap.size, 0, none⟩) (block_lt_of_cell k0)).trans k0
      have r1 := (hb.cell (p := ⟨w.heap.size, 1, none⟩) (block_lt_of_cell k1)).trans k1
      have r3 := (hb.cell (p := ⟨w.heap.size, 3, none⟩) (block_lt_of_cell k3)).trans k3
      have r4 := (hb.cell (p := ⟨w.heap.size, 4, none⟩) (block_lt_of_cell k4)).trans k4
      have r5 := (hb.cell (p := ⟨w.heap.size, 5, none⟩) (block_lt_of_cell k5)).trans k5
      clear hb k0 k1 k3 k4 k5 k6 k8
      rcases HS2.out with e1 | ⟨e1, e2, e3, e4⟩
      · have e1z : (c.owner == c.self) = true := by rw [e1]; exact beq_self_eq_true _
        clear e1
        go_wp2
        go_ret
        exact ⟨rfl, HQ4.out.bel⟩
      · have e1z : (c.owner == c.self) = false := beq_eq_false_iff_ne.2 e1
        have e3z : (c.asking == c.token) = true := by rw [e3]; exact beq_self_eq_true _
        clear e1 e3
        go_wp2
        go_ret
        exact ⟨rfl, HQ4.out.bel⟩

end Go.Proofs.YtpmpndfinghlkaaDoor
