/- The laws RouteLeads, RouteServes: where a client is sent; where a command is served. -/
import Derived.Test.YtpmpndfinghlkaaDoorLawRt1
namespace Go.Proofs.YtpmpndfinghlkaaDoor
open Go.RowKit

theorem leads_is (c : CaseV) : ((decideV c).kind = 2 → (decideV c).node ≠ c.self) ∧ ((decideV c).kind = 3 → (decideV c).node = c.mig ∧ (decideV c).token = c.token) := by
  by_cases h0 : c.slots.length = 0
  · rw [show decideV c = ⟨1, 0, 0, 0⟩ by unfold decideV; rw [if_pos h0]]; exact ⟨fun h => absurd h (by decide), fun h => absurd h (by decide)⟩
  by_cases h1 : sameS c.slots (c.slots.getD 0 0) c.slots.length = false
  · rw [show decideV c = ⟨5, c.slots.getD 0 0, 0, 0⟩ by unfold decideV; rw [if_neg h0, if_pos h1]]; exact ⟨fun h => absurd h (by show ¬ (5 : Int) = 2; decide), fun h => absurd h (by show ¬ (5 : Int) = 3; decide)⟩
  have e : decideV c = restV c (c.slots.getD 0 0) (someB c.here c.slots.length) (allB c.here c.slots.length) (someB c.held c.slots.length) := by
    unfold decideV; rw [if_neg h0, if_neg h1]
  rw [e]
  generalize c.slots.getD 0 0 = s
  generalize someB c.here c.slots.length = b1
  generalize allB c.here c.slots.length = b2
  generalize someB c.held c.slots.length = b3
  unfold restV
  by_cases h2 : c.owner = c.self
  · rw [if_pos h2]
    by_cases h3 : b3 = true
    · rw [if_pos h3]; exact ⟨fun h => absurd h (by show ¬ (4 : Int) = 2; decide), fun h => absurd h (by show ¬ (4 : Int) = 3; decide)⟩
    rw [if_neg h3]
    by_cases h4 : c.mig < 0 ∨ b2 = true
    · rw [if_pos h4]; exact ⟨fun h => absurd h (by show ¬ (1 : Int) = 2; decide), fun h => absurd h (by show ¬ (1 : Int) = 3; decide)⟩
    rw [if_neg h4]
    by_cases h5 : b1 = true
    · rw [if_pos h5]; exact ⟨fun h => absurd h (by show ¬ (4 : Int) = 2; decide), fun h => absurd h (by show ¬ (4 : Int) = 3; decide)⟩
    rw [if_neg h5]
    exact ⟨fun h => absurd h (by show ¬ (3 : Int) = 2; decide), fun _ => ⟨rfl, rfl⟩⟩
  rw [if_neg h2]
  by_cases h3 : 0 ≤ c.imp ∧ 0 < c.asking ∧ c.asking = c.token
  · rw [if_pos h3]
    by_cases h4 : b3 = true ∨ (1 < c.slots.length ∧ b2 = false)
    · rw [if_pos h4]; exact ⟨fun h => absurd h (by show ¬ (4 : Int) = 2; decide), fun h => absurd h (by show ¬ (4 : Int) = 3; decide)⟩
    · rw [if_neg h4]; exact ⟨fun h => absurd h (by show ¬ (1 : Int) = 2; decide), fun h => absurd h (by show ¬ (1 : Int) = 3; decide)⟩
  rw [if_neg h3]
  by_cases h4 : c.owner < 0
  · rw [if_pos h4]; exact ⟨fun h => absurd h (by show ¬ (6 : Int) = 2; decide), fun h => absurd h (by show ¬ (6 : Int) = 3; decide)⟩
  · rw [if_neg h4]; exact ⟨fun _ => h2, fun h => absurd h (by show ¬ (2 : Int) = 3; decide)⟩
theorem serves_is (c : CaseV) (h0 : c.slots.length ≠ 0) (hk : (decideV c).kind = 1) : someB c.held c.slots.length = false ∧ (c.owner = c.self ∨ (c.owner ≠ c.self ∧ 0 < c.asking ∧ c.asking = c.token ∧ 0 ≤ c.imp)) := by
  by_cases h1 : sameS c.slots (c.slots.getD 0 0) c.slots.length = false
  · rw [show decideV c = ⟨5, c.slots.getD 0 0, 0, 0⟩ by unfold decideV; rw [if_neg h0, if_pos h1]] at hk; exact absurd hk (by show ¬ (5 : Int) = 1; decide)
  have e : decideV c = restV c (c.slots.getD 0 0) (someB c.here c.slots.length) (allB c.here c.slots.length) (someB c.held c.slots.length) := by
    unfold decideV; rw [if_neg h0, if_neg h1]
  rw [e] at hk
  generalize c.slots.getD 0 0 = s at *
  generalize someB c.here c.slots.length = b1 at *
  generalize allB c.here c.slots.length = b2 at *
  generalize someB c.held c.slots.length = b3 at *
  unfold restV at hk
  by_cases h2 : c.owner = c.self
  · rw [if_pos h2] at hk
    refine ⟨?_, .inl h2⟩
    cases b3
    · rfl
    · rw [if_pos rfl] at hk; exact absurd hk (by show ¬ (4 : Int) = 1; decide)
  rw [if_neg h2] at hk
  by_cases h3 : 0 ≤ c.imp ∧ 0 < c.asking ∧ c.asking = c.token
  · rw [if_pos h3] at hk
    refine ⟨?_, .inr ⟨h2, h3.2.1, h3.2.2, h3.1⟩⟩
    cases b3
    · rfl
    · rw [if_pos (.inl rfl)] at hk; exact absurd hk (by show ¬ (4 : Int) = 1; decide)
  rw [if_neg h3] at hk
  by_cases h4 : c.owner < 0
  · rw [if_pos h4] at hk; exact absurd hk (by show ¬ (6 : Int) = 1; decide)
  · rw [if_neg h4] at hk; exact absurd hk (by show ¬ (2 : Int) = 1; decide)
/-- a law on its way: the case in its box, its decision in another -/
structure Lw (w W : World) (CC : Array Value) (b : Nat) (D : DecV) : Prop where
  box : W.heap[w.heap.size]? = some (.cells CC 25 (0, 0))
  dec : W.heap[b]? = some (.cells (decCells D) 28 (0, 0))
  bel : Below w.heap.size w W
theorem Lw.go {w W W' : World} {CC : Array Value} {b : Nat} {D : DecV} (h : Lw w W CC b D) (hb : Below W.heap.size W W') : Lw w W' CC b D :=
  ⟨(hb.block _ (Array.getElem?_eq_some_iff.1 h.box).1).trans h.box, (hb.block _ (Array.getElem?_eq_some_iff.1 h.dec).1).trans h.dec, h.bel.trans (hb.mono h.bel.size)⟩
theorem Lw.cells {w W : World} {CC : Array Value} {b : Nat} {D : DecV} (h : Lw w W CC b D) : W.cell? ⟨b, 0, none⟩ = some (.int .i64 D.kind) ∧ W.cell? ⟨b, 1, none⟩ = some (.int .i64 D.slot) ∧ W.cell? ⟨b, 2, none⟩ = some (.int .i64 D.node) ∧ W.cell? ⟨b, 3, none⟩ = some (.int .i64 D.token) :=
  ⟨cell_of_row _ _ 0 _ _ _ h.dec, cell_of_row _ _ 1 _ _ _ h.dec, cell_of_row _ _ 2 _ _ _ h.dec, cell_of_row _ _ 3 _ _ _ h.dec⟩
theorem Lw.laid {w w2 : World} {CC : Array Value} (D : DecV) (hX : w2.heap[w.heap.size]? = some (.cells CC 25 (0, 0))) (hB : Below w.heap.size w w2) :
    (w2.alloc (.cells #[.int .i64 0, .int .i64 0, .int .i64 0, .int .i64 0] 28)).heap[w2.heap.size]? = some (.cells #[.int .i64 0, .int .i64 0, .int .i64 0, .int .i64 0] 28 (0, 0)) ∧
    Lw w ((w2.alloc (.cells #[.int .i64 0, .int .i64 0, .int .i64 0, .int .i64 0] 28)).setRow w2.heap.size (decCells D)) CC w2.heap.size D := by
  have h1 := heap_alloc_new w2 (.cells #[.int .i64 0, .int .i64 0, .int .i64 0, .int .i64 0] 28)
  have hlt := (Array.getElem?_eq_some_iff.1 hX).1
  exact ⟨h1, (setRow_other _ _ _ _ (by omega)).trans ((heap_alloc_old _ _ hlt).trans hX), setRow_heap _ _ _ _ _ _ h1, below_setRow (hB.alloc hB.size _) hB.size _⟩
theorem dec_one (D : DecV) : (decCells D).all (·.oneCell') = true := by simp [decCells, Value.oneCell']
set_option maxHeartbeats 4000000 in
set_option maxRecDepth 100000 in
theorem leads_any (c : CaseV) (a : Option Addr) (ca : Nat) (h : Option Addr) (ch : Nat) (d : Option Addr) (cd : Nat) (w : World) (hE : Env w) (hC : CaseR w c a h d) (hN : CaseN c ca ch cd) :
    Calls Tryd.prog 7 #[.agg (caseCells c a ca h ch d cd)] w fun e w' => e = .returned (.bool true) ∧ Below w.heap.size w w' := by
  obtain ⟨w1, hw1⟩ : ∃ w1, w.alloc (.cells (caseCells c a ca h ch d cd) 25) = w1 := ⟨_, rfl⟩
  have hB1 : Below w.heap.size w w1 := by rw [← hw1]; exact below_alloc _ _
  have HB1 := hid hB1
  have HX : Hid (w1.heap[w.heap.size]? = some (.cells (caseCells c a ca h ch d cd) 25 (0, 0))) := by unfold Hid; rw [← hw1]; exact heap_alloc_new _ _
  have HD := hid (decide_all c w1 (hC.below hB1 (Nat.le_refl _)) hN)
  have HE := hid fun (W : World) (hb : Below w.heap.size w W) => hE.below hb hE.room
  have HRC := hid fun (W : World) (hW : W.heap[w.heap.size]? = some (.cells (caseCells c a ca h ch d cd) 25 (0, 0))) => read_case hW
  have HLs := hid (leads_is c)
  have HI := hid (infoCase c a ca h ch d cd)
  generalize decideV c = D at *
  generalize caseCells c a ca h ch d cd = CC at *
  have hz := infoDec
  clear hC hN hE hB1
  go_enter Tryd.func7, Tryd.ntmps7
  go_upto_region 1 with fail
  clear hw1
  go_wp2_with (refine wpList_load_row rfl 25 _ rfl w.heap.size rfl 25 _ (0, 0) _ HX.out Tryd.underlying25 rfl HI.out ?_)
  refine HD.out.mono ?_; rintro e w2 ⟨rfl, hb⟩
  have HL := Lw.laid D ((hb.block _ (Array.getElem?_eq_some_iff.1 HX.out).1).trans HX.out) (HB1.out.trans (hb.mono HB1.out.size))
  have HZ := hid HL.1
  have HQ := hid HL.2
  clear hb HD HX HB1 HL
  go_upto_region 2 with (refine wpList_store_row rfl 28 _ _ rfl w2.heap.size (decCells D) rfl rfl 28 _ HZ.out (hz D) rfl (dec_one D) ?_)
  generalize (w2.alloc (.cells #[.int .i64 0, .int .i64 0, .int .i64 0, .int .i64 0] 28)).setRow w2.heap.size (decCells D) = w3 at *
  generalize w2.heap.size = b at *
  clear HZ
  have HA := hid (alive_any w3 (HE.out _ HQ.out.bel))
  go_wp2_with fail
  refine HA.out.mono ?_; rintro e w4 ⟨rfl, hb⟩
  have HQ4 := hid (HQ.out.go hb)
  clear hb HA HQ HE
  obtain ⟨d0, -, d2, d3⟩ := HQ4.out.cells
  obtain ⟨k0, -, k2, -, k4, -, -, -, -⟩ := HRC.out w4 HQ4.out.box
  obtain ⟨dk, ds, dn, dt⟩ := D
  simp only at d0 d2 d3
  by_cases h2 : dk = 2
  · subst h2
    have hne : (dn != c.self) = true := by simpa using HLs.out.1 rfl
    go_wp2
    go_ret
    exact ⟨rfl, HQ4.out.bel⟩
  by_cases h3 : dk = 3
  · subst h3
    obtain ⟨e1, e2⟩ := HLs.out.2 rfl
    have e1z : (dn == c.mig) = true := by rw [show dn = c.mig from e1]; exact beq_self_eq_true _
    have e2z : (dt == c.token) = true := by rw [show dt = c.token from e2]; exact beq_self_eq_true _
    clear e1 e2
    go_wp2
    go_ret
    exact ⟨rfl, HQ4.out.bel⟩
  have h2z : (dk != 2) = true := by simpa using h2
  have h3z : (dk != 3) = true := by simpa using h3
  clear h2 h3
  go_wp2
  go_ret
  exact ⟨rfl, HQ4.out.bel⟩

end Go.Proofs.YtpmpndfinghlkaaDoor
