/- BlDo. -/
import Derived.Test.YtbfllifgmlkndaaGreatDoorM42
import Derived.Test.YtbfllifgmlkndaaGreatDoorM43
import Derived.Test.YtbfllifgmlkndaaGreatDoorM44
import Derived.Test.YtbfllifgmlkndaaGreatDoorM45
import Derived.Test.YtbfllifgmlkndaaGreatDoorM46
namespace Go.Proofs.YtbfllifgmlkndaaGreatDoor
open Go.RowKit
open Slot

theorem does_any (B b vb : Nat) (F : Nat → Prop) (v : Vw) (O : List (Int × Bs)) (me g cap B1 : Nat) (v2 : Vw) (u : Value) (O2 : List (Int × Bs)) (o : OpB) (w : World) (h : Dk B b vb F v O me g B1 v2 u O2 w) (hsl : o.s.length ≤ 1048576) (hO : O2 = O ∨ O2 = []) :
    Calls Tryz.prog 11 #[.pointer (some ⟨b, 0, none⟩), .agg (rbc me g cap v2.cur u), .agg (opbCells o)] w (DoesP B b vb F v O me v2 O2 o w) := by
  by_cases k0 : o.kind = 0
  · exact does0 B b vb F v O me g cap B1 v2 u O2 o w k0 h hsl
  by_cases k1 : o.kind = 1
  · exact does1 B b vb F v O me g cap B1 v2 u O2 o w k1 h hsl
  by_cases k2 : o.kind = 2
  · exact does2 B b vb F v O me g cap B1 v2 u O2 o w k2 h hsl
  by_cases k3 : o.kind = 3
  · exact does3 B b vb F v O me g cap B1 v2 u O2 o w k3 h hsl
  by_cases k4 : o.kind = 4
  · exact does4 B b vb F v O me g cap B1 v2 u O2 o w k4 h hsl
  by_cases k5 : o.kind = 5
  · exact does5 B b vb F v O me g cap B1 v2 u O2 o w k5 h hO
  · exact does9 B b vb F v O me g cap B1 v2 u O2 o w ⟨k0, k1, k2, k3, k4, k5⟩ h
theorem bView_ok {v : Vw} {k : Nat} (h : v.Ok k) (s : Bs) : (bView v s).Ok (k + 1) := by
  unfold bView
  split
  · exact take_ok h
  · exact h.mono (by omega)
theorem bWin_ok {v : Vw} {k : Nat} (h : v.Ok k) (s : Int) (l : Nat) : (bWin v s l).Ok (k + 1) := by
  unfold bWin
  split
  · rename_i e
    refine win_ok h ?_
    unfold winE at e
    by_cases c : slotB s = true ∧ l ≤ big
    · exact c.2
    · rw [if_neg c] at e; cases e
  · exact h.mono (by omega)
theorem bGive_ok {v : Vw} {k : Nat} (h : v.Ok k) (s n : Int) : (bGive v s n).Ok (k + 1) := by
  unfold bGive
  split
  · rename_i e
    refine (own_ok h ?_).mono (by omega)
    unfold giveE at e
    by_cases c : slotB s = true
    · rw [if_pos c] at e
      by_cases d : 0 ≤ n ∧ n < 64
      · omega
      · rw [if_neg d] at e; cases e
    · rw [if_neg c] at e; cases e
  · exact h.mono (by omega)
theorem bV_ok {v : Vw} {k : Nat} (h : v.Ok k) (o : OpB) : (bV v o).Ok (k + 1) := by
  unfold bV
  split
  · exact bView_ok h _
  · split
    · exact bWin_ok h _ _
    · split
      · exact bGive_ok h _ _
      · exact h.mono (by omega)
theorem take_self (v : Vw) (p : Pk) : (takeV v p).self = v.self := by
  unfold takeV
  split
  · exact take3_self v p
  · rfl
theorem bV_self (v : Vw) (o : OpB) : (bV v o).self = v.self := by
  unfold bV
  split
  · unfold bView
    split
    · exact take_self _ _
    · rfl
  · split
    · unfold bWin
      split <;> rfl
    · split
      · unfold bGive
        split <;> rfl
      · rfl
theorem tellO_len (v : Vw) (k t : Int) : (tellO v k t).length ≤ 1 := by
  unfold tellO
  split <;> simp [outs]
theorem bOut_len (v : Vw) (s : Bs) : (bOut v s).length ≤ 2 := by
  unfold bOut
  split
  · unfold outs
    rw [List.length_map]
    exact answ_len2 _ _
  · simp
theorem bO_len (v : Vw) (O : List (Int × Bs)) (o : OpB) : (bO v O o).length ≤ O.length + 2 := by
  have h1 := tellO_len v 1 o.n
  have h2 := tellO_len v 4 o.n
  have h3 := bOut_len v o.s
  unfold bO
  split
  · rw [List.length_append]; omega
  · split
    · rw [List.length_append]; omega
    · split
      · rw [List.length_append]; omega
      · split
        · simp
        · omega
theorem outr_slice {B : Nat} {w : World} {a : Option Addr} {n c : Nat} {L : List (Int × Bs)} (h : OutR B w (.slice a n c) L) : OutB w a L ∧ L.length = n := by
  obtain ⟨a', c', e, h2⟩ := outr_out h
  injection e with e1 e2 _
  rw [e1]
  exact ⟨h2, e2.symm⟩
theorem Ty.setRow {w : World} {F : Nat → Prop} (h : Ty w F) {x : Nat} (hx : ¬ F x) (C : Array Value) : Ty (w.setRow x C) F := fun k hk => by
  obtain ⟨C', t, fr, e1, e2⟩ := h k hk
  exact ⟨C', t, fr, (setRow_other w x k C (fun e => hx (e ▸ hk))).trans e1, e2⟩
theorem Ty.not {w : World} {F : Nat → Prop} (h : Ty w F) {x : Nat} {C : Array Value} {t : TypeId} {fr : Nat × Nat} (hx : w.heap[x]? = some (.cells C t fr)) (h1 : t ≠ 77) (h2 : t ≠ 109) (h3 : t ≠ 69) : ¬ F x := fun c => by
  obtain ⟨C', t', fr', e, hty⟩ := h x c
  rw [hx] at e
  injection e with e
  injection e with _ e _
  rcases hty with rfl | rfl | rfl
  · exact h1 e
  · exact h2 e
  · exact h3 e
/-- how a bus begins, as cells: what is read of it -/
theorem bb_cells {w : World} {b : Nat} {self : Int} {cl : Nat → Bool} {ep : Nat} (h : w.heap[b]? = some (.cells (bbCells self cl ep) 26 (0, 0))) : w.cell? ⟨b, 0, none⟩ = some (.int .i64 self) ∧ w.rangeAt b 1 (cellsOf cl).toList ∧ w.cell? ⟨b, 257, none⟩ = some (.int .u64 (ep : Int)) := by
  refine ⟨?_, bb_cl h, ?_⟩
  · rw [cell_of_row w b _ _ _ _ h]
    unfold bbCells
    rw [Array.getElem?_append_left (by simp; omega), Array.getElem?_append_left (by simp)]
    rfl
  · rw [cell_of_row w b _ _ _ _ h]
    unfold bbCells
    rw [Array.getElem?_append_right (by simp [cellsOf_size])]
    simp [cellsOf_size]
theorem bbCells_size (self : Int) (cl : Nat → Bool) (ep : Nat) : (bbCells self cl ep).size = 258 := by simp [bbCells, cellsOf_size]
theorem infoBB (self : Int) (cl : Nat → Bool) (ep : Nat) : (Tryz.prog.info? 26).map (·.size) = some (bbCells self cl ep).size := by rw [bbCells_size]; kernel_rfl
/-- a bus that is built of a view -/
def placesRB : Array (Nat × Nat) := #[(0, 3), (3, 1)]
theorem builtRB_any (parts : List (Nat × Value)) : Tryz.prog.built 41 parts = Instr.fill (fun i => placesRB[i]?) #[.int .i64 0, .slice none 0 0, .int .u64 0, .slice none 0 0] parts := by kernel_rfl
theorem built_rb (me g cap cu : Nat) : Tryz.prog.built 41 [(0, .agg (rvc me g cap cu))] = some (rbc me g cap cu (.slice none 0 0)) := by
  rw [builtRB_any]
  rfl
theorem wp_buildRB {o : Oper} {a : Act} {w : World} {K : Act → World → Prop} {Q : Exit → Act → World → Prop} (x : Operand) (ho : o.op = .build 41 #[(0, x)]) (RV RC : Array Value) (hb : Tryz.prog.built 41 [(0, .agg RV)] = some RC) (hx : a.eval x = .agg RV)
    (h : K (a.put o.dst (.agg RC)) w) : o.wp Tryz.prog a w K Q := by
  have e : (#[(0, x)].map fun (i, x) => (i, a.eval x)).toList = [(0, .agg RV)] := by simp [hx]
  exact wp_build 41 _ ho (by rw [e, hb]; rfl) (by rw [e, hb]; exact h)
theorem wpList_buildRB {ops : Array Oper} {rest : List Oper} {o : Oper} {a : Act} {w : World} {Q : Exit → Act → World → Prop} (hg : o.guard = none) (x : Operand) (ho : o.op = .build 41 #[(0, x)]) (RV RC : Array Value) (hb : Tryz.prog.built 41 [(0, .agg RV)] = some RC) (hx : a.eval x = .agg RV)
    (h : wpList Tryz.prog ops Q rest (a.put o.dst (.agg RC)) w) : wpList Tryz.prog ops Q (o :: rest) a w :=
  wpList_plain hg fun _ hK => wp_buildRB x ho RV RC hb hx (hK _ _ h)
theorem newE_yes {self : Int} {e : Nat} (h : newE self e = 0) : ∃ s : Nat, self = (s : Int) ∧ s < 64 ∧ e ≤ 4611686018427387904 := by
  unfold newE at h
  by_cases c : 0 ≤ self ∧ self < 64
  · rw [if_pos c] at h
    obtain ⟨s, rfl⟩ := Int.eq_ofNat_of_zero_le c.1
    by_cases d : e ≤ 4611686018427387904
    · exact ⟨s, rfl, by omega, d⟩
    · rw [if_neg d] at h; cases h
  · rw [if_neg c] at h; cases h
/-- the document's New, of a view -/
def RNewP (me : Nat) (v : Vw) (w : World) (r : Ending) (w' : World) : Prop := ∃ g cap, r = .returned (.tuple #[.agg (rvc me g cap v.cur), .int .i64 0]) ∧ Nd w' g v.ep v.cl ∧ Below w.heap.size w w'
theorem rn_yes (s e : Nat) (S : Nat → Bool) (W : World) (hs : s < 64) (he : e ≤ 4611686018427387904) : Calls Tryz.prog 8 #[.int .i64 (s : Int), .agg (cellsOf S), .int .u64 (e : Int)] W (RNewP s (newV s S e) W) := by
  refine (rnew_yes s e S W hs he).mono ?_
  rintro r w' ⟨g, cap, rfl, h1, -, h2⟩
  exact ⟨g, cap, rfl, h1, h2⟩

end Go.Proofs.YtbfllifgmlkndaaGreatDoor
