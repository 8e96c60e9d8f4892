/- The law RouteTurned: in which order keys of one slot stand is not seen. -/
import Derived.Test.YtpmpndfinghlkaaDoorRtTurn
import Derived.BigQuiet
namespace Go.Proofs.YtpmpndfinghlkaaDoor
open Go.RowKit

/-- the law on its way: the case in its box, the turned one in another, its two rows -/
structure Tn (w W : World) (CC CT : Array Value) (n : Nat) (c : CaseV) (b1 b2 b3 : Nat) (i j : Nat) : Prop where
  box : W.heap[w.heap.size]? = some (.cells CC 25 (0, 0))
  turn : W.heap[b1]? = some (.cells CT 25 (0, 0))
  here : Fl W b2 n c.here i
  held : Fl W b3 n c.held j
  bel : Below w.heap.size w W
theorem Tn.drewN {w W : World} {CC CT : Array Value} {n : Nat} {c : CaseV} {b1 b2 b3 i j : Nat} (h : Tn w W CC CT n c b1 b2 b3 i j) (q : Nat) : Tn w (W.drewN q) CC CT n c b1 b2 b3 i j := ⟨h.box, h.turn, h.here, h.held, ⟨h.bel.os, h.bel.tape, h.bel.output, h.bel.size, h.bel.block⟩⟩
theorem Tn.drew {w W : World} {CC CT : Array Value} {n : Nat} {c : CaseV} {b1 b2 b3 i j : Nat} (h : Tn w W CC CT n c b1 b2 b3 i j) : Tn w W.drew CC CT n c b1 b2 b3 i j := ⟨h.box, h.turn, h.here, h.held, h.bel.drew⟩
theorem Tn.go {w W W' : World} {CC CT : Array Value} {n : Nat} {c : CaseV} {b1 b2 b3 i j : Nat} (h : Tn w W CC CT n c b1 b2 b3 i j) (hb : Below W.heap.size W W') : Tn w W' CC CT n c b1 b2 b3 i j :=
  ⟨(hb.block _ (Array.getElem?_eq_some_iff.1 h.box).1).trans h.box, (hb.block _ (Array.getElem?_eq_some_iff.1 h.turn).1).trans h.turn, h.here.same (hb.block _ h.here.lt), h.held.same (hb.block _ h.held.lt), h.bel.trans (hb.mono h.bel.size)⟩
theorem Tn.putHere {w W : World} {CC CT : Array Value} {n : Nat} {c : CaseV} {b1 b2 b3 i j : Nat} (h : Tn w W CC CT n c b1 b2 b3 i j) (h1 : w.heap.size < b1) (h2 : b1 < b2) (h3 : b2 < b3) (hi : i < n) (x : Bool) (hx : atB c.here i = x) :
    Tn w (W.setCell ⟨b2, n - 1 - i, none⟩ (.bool x)) CC CT n c b1 b2 b3 (i + 1) j :=
  ⟨(Below.heap_setCell _ _ _ _ (by show w.heap.size ≠ b2; omega)).trans h.box, (Below.heap_setCell _ _ _ _ (by show b1 ≠ b2; omega)).trans h.turn, h.here.put hi x hx, h.held.same (Below.heap_setCell _ _ _ _ (by show b3 ≠ b2; omega)), Below.setCell h.bel (p := ⟨b2, n - 1 - i, none⟩) (by show w.heap.size ≤ b2; omega) _⟩
theorem Tn.putHeld {w W : World} {CC CT : Array Value} {n : Nat} {c : CaseV} {b1 b2 b3 i j : Nat} (h : Tn w W CC CT n c b1 b2 b3 i j) (h1 : w.heap.size < b1) (h2 : b1 < b2) (h3 : b2 < b3) (hj : j < n) (x : Bool) (hx : atB c.held j = x) :
    Tn w (W.setCell ⟨b3, n - 1 - j, none⟩ (.bool x)) CC CT n c b1 b2 b3 i (j + 1) :=
  ⟨(Below.heap_setCell _ _ _ _ (by show w.heap.size ≠ b3; omega)).trans h.box, (Below.heap_setCell _ _ _ _ (by show b1 ≠ b3; omega)).trans h.turn, h.here.same (Below.heap_setCell _ _ _ _ (by show b2 ≠ b3; omega)), h.held.put hj x hx, Below.setCell h.bel (p := ⟨b3, n - 1 - j, none⟩) (by show w.heap.size ≤ b3; omega) _⟩
theorem case_turned (c : CaseV) (a : Option Addr) (ca : Nat) (h : Option Addr) (ch : Nat) (d : Option Addr) (cd : Nat) (p q : Option Addr) (n : Nat) (hn : c.slots.length = n) :
    ((caseCells c a ca h ch d cd).setIfInBounds 7 (.slice p n n)).setIfInBounds 8 (.slice q n n) = caseCells (turned c) a ca p n q n := by
  have e1 : (turned c).here.length = n := by show (turnB c.here c.slots.length).length = n; rw [turnB_len]; exact hn
  have e2 : (turned c).held.length = n := by show (turnB c.held c.slots.length).length = n; rw [turnB_len]; exact hn
  unfold caseCells
  rw [e1, e2]
  rfl
theorem case_one (c : CaseV) (a : Option Addr) (ca : Nat) (h : Option Addr) (ch : Nat) (d : Option Addr) (cd : Nat) : (caseCells c a ca h ch d cd).all (·.oneCell') = true := by simp [caseCells, Value.oneCell']
set_option maxHeartbeats 8000000 in
set_option maxRecDepth 100000 in
theorem turned_any (c : CaseV) (a : Option Addr) (ca : Nat) (h : Option Addr) (ch : Nat) (d : Option Addr) (cd : Nat) (w : World) (hE : Env w) (hC : CaseR w c a h d) (hN : CaseN c ca ch cd) :
    Calls Tryd.prog 8 #[.agg (caseCells c a ca h ch d cd)] w fun e w' => e = .returned (.bool true) ∧ Below w.heap.size w w' := by
  obtain ⟨w1, hw1⟩ : ∃ w1, w.alloc (.cells (caseCells c a ca h ch d cd) 25) = w1 := ⟨_, rfl⟩
  have hB1 : Below w.heap.size w w1 := by rw [← hw1]; exact below_alloc _ _
  have hs1 : w1.heap.size = w.heap.size + 1 := by rw [← hw1]; simp
  have HX : Hid (w1.heap[w.heap.size]? = some (.cells (caseCells c a ca h ch d cd) 25 (0, 0))) := by unfold Hid; rw [← hw1]; exact heap_alloc_new _ _
  have HE := hid fun (W : World) (hb : Below w.heap.size w W) => hE.below hb hE.room
  have HRC := hid fun (W : World) (hW : W.heap[w.heap.size]? = some (.cells (caseCells c a ca h ch d cd) 25 (0, 0))) => read_case hW
  obtain ⟨n, hn⟩ : ∃ n, c.slots.length = n := ⟨_, rfl⟩
  rw [hn] at HRC
  have HB1 := hid hB1
  have hnz63 : (n : Int) ≤ 9223372036854775807 := by have := hN.slots; have := hN.ca; omega
  by_cases hbig : 100 < n
  · have hbz : (100 : Int) < (n : Int) := by omega
    obtain ⟨-, -, -, -, -, -, k6, -, -⟩ := HRC.out w1 HX.out
    have HA := hid (alive_any w1 (HE.out _ HB1.out))
    generalize caseCells c a ca h ch d cd = CC at *
    clear hE hC hN hB1 hs1 HX HRC HE hn hbig
    go_enter Tryd.func8, Tryd.ntmps8
    go_upto_region 1 with fail
    clear hw1
    go_wp2_with fail
    refine HA.out.mono ?_; rintro e w2 ⟨rfl, hb⟩
    have HB2 := hid (HB1.out.trans (hb.mono HB1.out.size))
    clear hb
    go_wp2
    go_ret
    exact ⟨rfl, HB2.out⟩
  have hsm : n ≤ 100 := by omega
  have hbz : ¬ (100 : Int) < (n : Int) := by omega
  obtain ⟨-, -, -, -, -, -, k6, -, -⟩ := HRC.out w1 HX.out
  have hCs : (caseCells c a ca h ch d cd).size = 9 := rfl
  have hCo := case_one c a ca h ch d cd
  have hiC := infoCase c a ca h ch d cd
  obtain ⟨w2, hw2⟩ : ∃ w2, w1.alloc (.cells #[.int .i64 0, .int .i64 0, .int .i64 0, .int .i64 0, .int .i64 0, .int .i64 0, .slice none 0 0, .slice none 0 0, .slice none 0 0] 25) = w2 := ⟨_, rfl⟩
  have hz2 : w2.heap[w1.heap.size]? = some (.cells #[.int .i64 0, .int .i64 0, .int .i64 0, .int .i64 0, .int .i64 0, .int .i64 0, .slice none 0 0, .slice none 0 0, .slice none 0 0] 25 (0, 0)) := by rw [← hw2]; exact heap_alloc_new _ _
  have hx2 : w2.heap[w.heap.size]? = some (.cells (caseCells c a ca h ch d cd) 25 (0, 0)) := by rw [← hw2]; exact (heap_alloc_old _ _ (by omega)).trans HX.out
  have hb2 : Below w.heap.size w w2 := by rw [← hw2]; exact hB1.alloc hB1.size _
  obtain ⟨w3, hw3⟩ : ∃ w3, w2.setRow w1.heap.size (caseCells c a ca h ch d cd) = w3 := ⟨_, rfl⟩
  have hz3 : w3.heap[w1.heap.size]? = some (.cells (caseCells c a ca h ch d cd) 25 (0, 0)) := by rw [← hw3]; exact setRow_heap _ _ _ _ _ _ hz2
  have hx3 : w3.heap[w.heap.size]? = some (.cells (caseCells c a ca h ch d cd) 25 (0, 0)) := by rw [← hw3]; exact (setRow_other _ _ _ _ (by omega)).trans hx2
  have hb3 : Below w.heap.size w w3 := by rw [← hw3]; exact below_setRow hb2 (by omega) _
  have hM5 := make_bools n hsm w3
  have hF4 := Fl.new w3 n c.here
  obtain ⟨w4, hw4⟩ : ∃ w4, w3.alloc (.cells (List.replicate n (.bool false)).toArray 4) = w4 := ⟨_, rfl⟩
  rw [hw4] at hM5 hF4
  have hlt31 := (Array.getElem?_eq_some_iff.1 hz3).1
  have hz4 : w4.heap[w1.heap.size]? = some (.cells (caseCells c a ca h ch d cd) 25 (0, 0)) := by rw [← hw4]; exact (heap_alloc_old _ _ hlt31).trans hz3
  have hx4 : w4.heap[w.heap.size]? = some (.cells (caseCells c a ca h ch d cd) 25 (0, 0)) := by rw [← hw4]; exact (heap_alloc_old _ _ (by omega)).trans hx3
  have hb4 : Below w.heap.size w w4 := by rw [← hw4]; exact hb3.alloc hb3.size _
  obtain ⟨b2, hbb2⟩ : ∃ b, w3.heap.size = b := ⟨_, rfl⟩
  rw [hbb2] at hM5 hF4
  obtain ⟨w5, hw5⟩ : ∃ w5, w4.setCell ⟨w1.heap.size, 7, none⟩ (.slice (some ⟨b2, 0, none⟩) n n) = w5 := ⟨_, rfl⟩
  have hz5 : w5.heap[w1.heap.size]? = some (.cells ((caseCells c a ca h ch d cd).setIfInBounds 7 (.slice (some ⟨b2, 0, none⟩) n n)) 25 (0, 0)) := by rw [← hw5]; exact heap_setCell_same _ _ _ _ _ _ hz4
  have hx5 : w5.heap[w.heap.size]? = some (.cells (caseCells c a ca h ch d cd) 25 (0, 0)) := by rw [← hw5]; exact (Below.heap_setCell _ _ _ _ (by show w.heap.size ≠ w1.heap.size; omega)).trans hx4
  have hF5 : Fl w5 b2 n c.here 0 := by rw [← hw5]; exact hF4.same (Below.heap_setCell _ _ _ _ (by show b2 ≠ w1.heap.size; omega))
  have hb5 : Below w.heap.size w w5 := by rw [← hw5]; exact Below.setCell hb4 (p := ⟨w1.heap.size, 7, none⟩) (by show w.heap.size ≤ w1.heap.size; omega) _
  have hM6 := make_bools n hsm w5
  have hG6 := Fl.new w5 n c.held
  obtain ⟨w6, hw6⟩ : ∃ w6, w5.alloc (.cells (List.replicate n (.bool false)).toArray 4) = w6 := ⟨_, rfl⟩
  rw [hw6] at hM6 hG6
  have hlt51 := (Array.getElem?_eq_some_iff.1 hz5).1
  have hlt52 := hF5.lt
  have hz6 : w6.heap[w1.heap.size]? = some (.cells ((caseCells c a ca h ch d cd).setIfInBounds 7 (.slice (some ⟨b2, 0, none⟩) n n)) 25 (0, 0)) := by rw [← hw6]; exact (heap_alloc_old _ _ hlt51).trans hz5
  have hx6 : w6.heap[w.heap.size]? = some (.cells (caseCells c a ca h ch d cd) 25 (0, 0)) := by rw [← hw6]; exact (heap_alloc_old _ _ (by omega)).trans hx5
  have hF6 : Fl w6 b2 n c.here 0 := by rw [← hw6]; exact hF5.same (heap_alloc_old _ _ hlt52)
  have hb6 : Below w.heap.size w w6 := by rw [← hw6]; exact hb5.alloc hb5.size _
  obtain ⟨b3, hbb3⟩ : ∃ b, w5.heap.size = b := ⟨_, rfl⟩
  rw [hbb3] at hM6 hG6
  have hT7 : Tn w (w6.setCell ⟨w1.heap.size, 8, none⟩ (.slice (some ⟨b3, 0, none⟩) n n)) (caseCells c a ca h ch d cd) (caseCells (turned c) a ca (some ⟨b2, 0, none⟩) n (some ⟨b3, 0, none⟩) n) n c w1.heap.size b2 b3 0 0 := by
    refine ⟨(Below.heap_setCell _ _ _ _ (by show w.heap.size ≠ w1.heap.size; omega)).trans hx6, ?_, hF6.same (Below.heap_setCell _ _ _ _ (by show b2 ≠ w1.heap.size; omega)), hG6.same (Below.heap_setCell _ _ _ _ (by show b3 ≠ w1.heap.size; omega)), Below.setCell hb6 (p := ⟨w1.heap.size, 8, none⟩) (by show w.heap.size ≤ w1.heap.size; omega) _⟩
    rw [← case_turned c a ca h ch d cd (some ⟨b2, 0, none⟩) (some ⟨b3, 0, none⟩) n hn]
    exact heap_setCell_same _ _ _ _ _ _ hz6
  have p4 : w4.cell? ⟨w1.heap.size, 7, none⟩ = some (.slice h c.here.length ch) := (read_case hz4).2.2.2.2.2.2.2.1
  have q4 : w4.frozen? ⟨w1.heap.size, 7, none⟩ = false := by simp [World.frozen?, hz4]
  have p6 : w6.cell? ⟨w1.heap.size, 8, none⟩ = some (.slice d c.held.length cd) := by rw [cell_of_row _ _ 8 _ _ _ hz6]; rfl
  have q6 : w6.frozen? ⟨w1.heap.size, 8, none⟩ = false := by simp [World.frozen?, hz6]
  have HT7 := hid hT7
  have HZ2 := hid hz2
  have hb12 : w.heap.size < w1.heap.size := by omega
  have hb23 : w1.heap.size < b2 := by omega
  have hb34 : b2 < b3 := by omega
  clear hT7 hz2 hz3 hz4 hz5 hz6 hx2 hx3 hx4 hx5 hx6 hF4 hF5 hF6 hG6 hb2 hb3 hb4 hb5 hb6 hlt31 hlt51 hlt52 hs1 hB1
  have HCs := hid hCs
  have HCo := hid hCo
  have HiC := hid hiC
  have HDt := hid (decide_turned c)
  have HDc := hid fun W hW => decide_all c (a := a) (h := h) (d := d) (ca := ca) (ch := ch) (cd := cd) W hW hN
  have HDt2 := hid fun W hW => decide_all (turned c) (a := a) (h := some ⟨b2, 0, none⟩) (d := some ⟨b3, 0, none⟩) (ca := ca) (ch := n) (cd := n) W hW ⟨hN.slots, by show (turnB c.here c.slots.length).length ≤ n; rw [turnB_len]; omega, by show (turnB c.held c.slots.length).length ≤ n; rw [turnB_len]; omega, hN.ca, by omega, by omega⟩
  have HCw := hid fun (W : World) (hb : Below w.heap.size w W) => hC.below hb (Nat.le_refl _)
  have HN := hid hn
  have HTl : Hid ((turned c).here.length = n ∧ (turned c).held.length = n) := ⟨by show (turnB c.here c.slots.length).length = n; rw [turnB_len]; exact hn, by show (turnB c.held c.slots.length).length = n; rw [turnB_len]; exact hn⟩
  have HRT := hid fun (W : World) (hW : W.heap[w1.heap.size]? = some (.cells (caseCells (turned c) a ca (some ⟨b2, 0, none⟩) n (some ⟨b3, 0, none⟩) n) 25 (0, 0))) => read_case hW
  have HiT := hid (infoCase (turned c) a ca (some ⟨b2, 0, none⟩) n (some ⟨b3, 0, none⟩) n)
  generalize caseCells (turned c) a ca (some ⟨b2, 0, none⟩) n (some ⟨b3, 0, none⟩) n = CT at *
  generalize caseCells c a ca h ch d cd = CC at *
  clear hCs hCo hiC hC hN hE hn
  go_enter Tryd.func8, Tryd.ntmps8
  go_upto_region 1 with fail
  clear hw1
  go_upto_region 7 with (first | (refine wpList_load_row rfl 25 _ rfl w.heap.size rfl 25 _ (0, 0) _ HX.out Tryd.underlying25 rfl HiC.out ?_) | (refine wpList_store_row rfl 25 _ _ rfl w1.heap.size CC rfl rfl 25 _ HZ2.out HiC.out (by rw [HCs.out]; rfl) HCo.out ?_))
  generalize _root_.Go.World.setCell w6 ⟨w1.heap.size, 8, none⟩ (.slice (some ⟨b3, 0, none⟩) n n) = w7 at *
  clear HZ2 HX HB1 hM5 hM6 p4 p6 q4 q6 hw2 hw3 hw4 hw5 hw6 hbb2 hbb3 HCs HCo k6
  generalize w1.heap.size = b1 at *
  have HS0 : Hid (∀ W : World, Below w.heap.size w W → ∀ i, i < n → ∃ sb so x s0, a = some ⟨sb, so, none⟩ ∧ W.cell? ⟨sb, so + i, none⟩ = some (.int .i64 x) ∧ W.cell? ⟨sb, so, none⟩ = some (.int .i64 s0)) := fun W hb i hi => by
    obtain ⟨sb, so, e, -, hcs⟩ := (HCw.out W hb).slots (fun e => by have := HN.out; rw [e] at this; simp at this; omega)
    have h0 := hcs 0 (by have := HN.out; omega)
    rw [Nat.add_zero] at h0
    exact ⟨sb, so, _, _, e, hcs i (by have := HN.out; omega), h0⟩
  have HH0 : Hid (∀ W : World, Below w.heap.size w W → ∀ i, (i < c.here.length ∧ ∃ hb ho, h = some ⟨hb, ho, none⟩ ∧ W.cell? ⟨hb, ho + i, none⟩ = some (.bool (atB c.here i))) ∨ (¬ i < c.here.length ∧ atB c.here i = false)) := fun W hb i => by
    by_cases hi : i < c.here.length
    · obtain ⟨sb, so, e, -, hcs⟩ := (HCw.out W hb).here (fun e => by rw [e] at hi; simp at hi)
      exact .inl ⟨hi, sb, so, e, by rw [atB_is hi]; exact hcs i hi⟩
    · exact .inr ⟨hi, atB_over (by omega)⟩
  have HL0 : Hid (∀ W : World, Below w.heap.size w W → ∀ i, (i < c.held.length ∧ ∃ hb ho, d = some ⟨hb, ho, none⟩ ∧ W.cell? ⟨hb, ho + i, none⟩ = some (.bool (atB c.held i))) ∨ (¬ i < c.held.length ∧ atB c.held i = false)) := fun W hb i => by
    by_cases hi : i < c.held.length
    · obtain ⟨sb, so, e, -, hcs⟩ := (HCw.out W hb).held (fun e => by rw [e] at hi; simp at hi)
      exact .inl ⟨hi, sb, so, e, by rw [atB_is hi]; exact hcs i hi⟩
    · exact .inr ⟨hi, atB_over (by omega)⟩
  obtain ⟨-, -, -, -, -, -, k6, -, -⟩ := HRC.out w7 HT7.out.box
  go_wp2_with fail
  clear k6
  go_loopw [5, 22] (fun _ v22 W => ∃ i : Nat, i ≤ n ∧ v22 = .int .i64 (i : Int) ∧ Hid (Tn w W CC CT n c b1 b2 b3 i i)) (fun _ v22 _ => n - (intOf v22).toNat)
  case atStart => exact ⟨0, Nat.zero_le _, rfl, HT7.out⟩
  case round =>
    obtain ⟨i, hi, rfl, HT⟩ := hrel
    by_cases hlt : i < n
    · have hlz : (i : Int) < (n : Int) := by omega
      have hpz : (0 : Int) < (n : Int) := by omega
      obtain ⟨sb, so, x, s0, rfl, ci, c0⟩ := HS0.out wr HT.out.bel i hlt
      obtain ⟨-, -, -, -, -, -, k6, -, -⟩ := HRC.out wr HT.out.box
      go_upto_region 10 with fail
      go_quiet (fail)
      have HTq := hid (HT.out.drewN nq)
      clear HT ci c0 k6
      generalize wr.drewN nq = wq at *
      by_cases hx : x = s0
      · subst hx
        obtain ⟨-, -, -, -, -, -, -, k7, -⟩ := HRC.out wq HTq.out.box
        obtain ⟨-, -, -, -, -, -, -, t7, -⟩ := HRT.out wq HTq.out.turn
        rw [HTl.out.1] at t7
        obtain ⟨⟨y, f0⟩, f1⟩ := HTq.out.here.cell (n - 1 - i) (by omega)
        have HP := HTq.out.putHere hb12 hb23 hb34 hlt (atB c.here i) rfl
        obtain ⟨p, hp⟩ : ∃ p, n - 1 - i = p := ⟨_, rfl⟩
        rw [hp] at f0 f1 HP
        have hq1 : (n : Int) - 1 - (i : Int) = (p : Int) := by omega
        have hpn : (p : Int) < (n : Int) := by omega
        have hiz : (i : Int) ≤ 100 := by omega
        have HP1 := hid HP.drew
        have HA0 := HH0.out wq HTq.out.bel i
        generalize atB c.here i = xh at *
        have hpe := hp
        clear hp HP
        rcases HA0 with ⟨him, hb, ho, rfl, ch0⟩ | ⟨him, rfl⟩
        · have himz : (i : Int) < (c.here.length : Int) := by omega
          go_upto_region 12 with fail
          go_region
          generalize _root_.Go.World.drew (_root_.Go.World.setCell wq ⟨b2, p, none⟩ (.bool xh)) = w8 at *
          clear HTq f0 f1 k7 t7 himz ch0
          obtain ⟨-, -, -, -, -, -, -, -, k8⟩ := HRC.out w8 HP1.out.box
          obtain ⟨-, -, -, -, -, -, -, -, t8⟩ := HRT.out w8 HP1.out.turn
          rw [HTl.out.2] at t8
          obtain ⟨⟨y2, f0⟩, f1⟩ := HP1.out.held.cell (n - 1 - i) (by omega)
          have HP := HP1.out.putHeld hb12 hb23 hb34 hlt (atB c.held i) rfl
          rw [hpe] at f0 f1 HP
          have HP2 := hid HP.drew
          have HA0 := HL0.out w8 HP1.out.bel i
          generalize atB c.held i = xl at *
          clear HP
          rcases HA0 with ⟨him, hb, ho, rfl, ch0⟩ | ⟨him, rfl⟩
          · have himz : (i : Int) < (c.held.length : Int) := by omega
            clear hpe
            go_upto_region 13 with fail
            go_region
            generalize _root_.Go.World.drew (_root_.Go.World.setCell w8 ⟨b3, p, none⟩ (.bool xl)) = w9 at *
            clear HP1 f0 f1 k8 t8 himz ch0
            go_wp2
            exact ⟨⟨i + 1, by omega, by go_num, HP2.out⟩, by simp [intOf]; omega⟩
          · have himz : ¬ (i : Int) < (c.held.length : Int) := by omega
            have himd : decide ((i : Int) < (c.held.length : Int)) = false := decide_eq_false himz
            clear hpe
            go_upto_region 13 with fail
            go_region
            generalize _root_.Go.World.drew (_root_.Go.World.setCell w8 ⟨b3, p, none⟩ (.bool false)) = w9 at *
            clear HP1 f0 f1 k8 t8 himz himd
            go_wp2
            exact ⟨⟨i + 1, by omega, by go_num, HP2.out⟩, by simp [intOf]; omega⟩
        · have himz : ¬ (i : Int) < (c.here.length : Int) := by omega
          have himd : decide ((i : Int) < (c.here.length : Int)) = false := decide_eq_false himz
          go_upto_region 12 with fail
          go_region
          generalize _root_.Go.World.drew (_root_.Go.World.setCell wq ⟨b2, p, none⟩ (.bool false)) = w8 at *
          clear HTq f0 f1 k7 t7 himz himd
          obtain ⟨-, -, -, -, -, -, -, -, k8⟩ := HRC.out w8 HP1.out.box
          obtain ⟨-, -, -, -, -, -, -, -, t8⟩ := HRT.out w8 HP1.out.turn
          rw [HTl.out.2] at t8
          obtain ⟨⟨y2, f0⟩, f1⟩ := HP1.out.held.cell (n - 1 - i) (by omega)
          have HP := HP1.out.putHeld hb12 hb23 hb34 hlt (atB c.held i) rfl
          rw [hpe] at f0 f1 HP
          have HP2 := hid HP.drew
          have HA0 := HL0.out w8 HP1.out.bel i
          generalize atB c.held i = xl at *
          clear HP
          rcases HA0 with ⟨him, hb, ho, rfl, ch0⟩ | ⟨him, rfl⟩
          · have himz : (i : Int) < (c.held.length : Int) := by omega
            clear hpe
            go_upto_region 13 with fail
            go_region
            generalize _root_.Go.World.drew (_root_.Go.World.setCell w8 ⟨b3, p, none⟩ (.bool xl)) = w9 at *
            clear HP1 f0 f1 k8 t8 himz ch0
            go_wp2
            exact ⟨⟨i + 1, by omega, by go_num, HP2.out⟩, by simp [intOf]; omega⟩
          · have himz : ¬ (i : Int) < (c.held.length : Int) := by omega
            have himd : decide ((i : Int) < (c.held.length : Int)) = false := decide_eq_false himz
            clear hpe
            go_upto_region 13 with fail
            go_region
            generalize _root_.Go.World.drew (_root_.Go.World.setCell w8 ⟨b3, p, none⟩ (.bool false)) = w9 at *
            clear HP1 f0 f1 k8 t8 himz himd
            go_wp2
            exact ⟨⟨i + 1, by omega, by go_num, HP2.out⟩, by simp [intOf]; omega⟩
      · have hxz : (x != s0) = true := by simpa using hx
        have HA := hid (alive_any wq (HE.out _ HTq.out.bel))
        clear hx
        go_wp2_with fail
        refine HA.out.mono ?_; rintro e w8 ⟨rfl, hb⟩
        have HB8 := hid (HTq.out.bel.trans (hb.mono HTq.out.bel.size))
        clear hb
        go_wp2
        go_ret
        exact ⟨rfl, HB8.out⟩
    · have hin : i = n := by omega
      subst hin
      have hnz : ¬ (i : Int) < (i : Int) := by omega
      have hCt : CaseR wr (turned c) a (some ⟨b2, 0, none⟩) (some ⟨b3, 0, none⟩) := by
        refine ⟨(HCw.out wr HT.out.bel).slots, ?_, ?_⟩
        · show BoolsR wr (some ⟨b2, 0, none⟩) (turnB c.here c.slots.length); rw [HN.out]; exact HT.out.here.row
        · show BoolsR wr (some ⟨b3, 0, none⟩) (turnB c.held c.slots.length); rw [HN.out]; exact HT.out.held.row
      have hCc := HCw.out wr HT.out.bel
      have C1 := hid fun d os => Calls.regrown_of (alive_any (Sort.grow (redrawn wr d) os) (HE.out _ (HT.out.bel.trans ((below_regrown wr d os).mono HT.out.bel.size))))
      have C2 := hid fun d os => Calls.regrown_of (HDt2.out (Sort.grow (redrawn wr d) os) (hCt.below (below_regrown wr d os) (Nat.le_refl _)))
      have C3 := hid fun d os => Calls.regrown_of (HDc.out (Sort.grow (redrawn wr d) os) (hCc.below (below_regrown wr d os) (Nat.le_refl _)))
      rw [HDt.out] at C2
      have heq := eq_dec_same (decideV c)
      generalize decCells (decideV c) = D at *
      clear hCt hCc HDt2 HDc HDt HCw HS0 HH0 HL0 HRC HRT
      go_upto_region 15 with fail
      refine wp_region_quiet_below (by kernel_rfl) (by kernel_rfl) ?_
      iterate 2 (quiet_step (exact C1.out _ _))
      refine quiet_load rfl 25 _ rfl b1 rfl 25 _ (0, 0) _ (fun W hc => grown_block HT.out.turn hc) Tryd.underlying25 rfl HiT.out ?_
      quiet_step (exact C2.out _ _)
      refine quiet_load rfl 25 _ rfl w.heap.size rfl 25 _ (0, 0) _ (fun W hc => grown_block HT.out.box hc) Tryd.underlying25 rfl HiC.out ?_
      quiet_step (exact C3.out _ _)
      repeat (quiet_step (fail))
      refine wpQuiet_nil ?_
      intro _ hw'
      obtain ⟨⟨dq, osq⟩, hw''⟩ := hw'
      subst hw''
      go_wp2
      go_ret
      exact ⟨rfl, HT.out.bel.trans ((below_regrown wr dq osq).mono HT.out.bel.size)⟩

end Go.Proofs.YtpmpndfinghlkaaDoor
