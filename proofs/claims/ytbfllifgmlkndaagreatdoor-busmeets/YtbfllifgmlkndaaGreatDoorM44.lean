/- BpCall. -/
import Derived.Test.YtbfllifgmlkndaaGreatDoorM38
import Derived.Test.YtbfllifgmlkndaaGreatDoorM43
import Derived.Test.YtbfllifgmlkndaaGreatDoorM42
namespace Go.Proofs.YtbfllifgmlkndaaGreatDoor
open Go.RowKit
open Slot

/-- a bus that is made -/
def UNewP (B : Nat) (v : Vw) (w : World) (e : Ending) (w' : World) : Prop := ∃ b vb F, e = .returned (.tuple #[.pointer (some ⟨b, 0, none⟩), .int .i64 0]) ∧ BB B w' F b vb v [] ∧ (∀ k, F k → w.heap.size ≤ k) ∧ Below w.heap.size w w'
set_option maxHeartbeats 4000000 in
set_option maxRecDepth 100000 in
theorem unew_yes (B self e : Nat) (S : Nat → Bool) (w : World) (hB : B ≤ w.heap.size) (hs : self < 64) (he : e ≤ 4611686018427387904) : Calls Tryz.prog 7 #[.int .i64 (self : Int), .agg (cellsOf S), .int .u64 (e : Int)] w (UNewP B (newV self S e) w) := by
  have HBx := hid (show Box _ _ _ from heap_alloc_new w (.cells (cellsOf S) 24))
  have HW0 := hid (below_alloc w (.cells (cellsOf S) 24))
  have HNw := hid (fun W => pnew_yes self e S W hs he)
  have HB := hid hB
  have iC : (Tryz.prog.info? 24).map (·.size) = some (cellsOf S).size := by rw [cellsOf_size]; kernel_rfl
  obtain ⟨v, hv⟩ : ∃ v, newV self S e = v := ⟨_, rfl⟩
  have HP : Hid (∀ W r w', PNewP self e S W r w' → ∃ b, r = .returned (.tuple #[.pointer (some ⟨b, 0, none⟩), .int .i64 0]) ∧ VB w' b v ∧ W.heap.size ≤ b ∧ Below W.heap.size W w') := fun W r w' h => by rw [← hv]; exact h
  have HBr : Hid ((w.alloc (.cells (cellsOf S) 24)).heap[w.heap.size]? = some (.cells (cellsOf S) 24 (0, 0))) := HBx.out
  rw [hv]
  obtain ⟨CS, hCS⟩ : ∃ C, cellsOf S = C := ⟨_, rfl⟩
  rw [hCS] at HBr HW0 HNw iC ⊢
  clear hv hCS HBx hB hs he
  go_enter Tryz.func7, Tryz.ntmps7
  go_upto_region 1 with fail
  generalize w.alloc (.cells CS 24) = w1 at *
  go_wp2_with (refine wpList_load_row rfl 24 _ rfl w.heap.size rfl 24 _ (0, 0) _ HBr.out Tryz.underlying24 rfl iC ?_)
  refine (HNw.out _).mono ?_; rintro r w2 hr
  obtain ⟨vb, rfl, hV, hb, hbl⟩ := HP.out _ _ _ hr
  have HV := hid hV
  have HW2 := hid (HW0.out.trans (hbl.mono HW0.out.size))
  have HVb : Hid (w.heap.size ≤ vb) := by have := HW0.out.size; show _ ≤ _; omega
  clear hr hV hb hbl HNw HP HBr HW0
  have HNe := hid (bb_new HV.out (Nat.le_trans HB.out HVb.out))
  have HW3 := hid (HW2.out.alloc HW2.out.size (.cells (bkC vb (.slice none 0 0)) 77))
  unfold bkC at HNe HW3
  go_wp2_with fail
  go_ret2
  refine ⟨w2.heap.size, vb, _, rfl, HNe.out, fun k hk => ?_, HW3.out⟩
  have := HW2.out.size
  have := HVb.out
  rcases hk with rfl | rfl <;> omega
/-- what a bus knows, as a copy -/
def UViewP (v : Vw) (w : World) (e : Ending) (w' : World) : Prop := ∃ c, e = .returned (.pointer (some ⟨c, 0, none⟩)) ∧ VB w' c v ∧ w.heap.size ≤ c ∧ Below w.heap.size w w'
set_option maxHeartbeats 1000000 in
theorem uview_any (B b vb : Nat) (F : Nat → Prop) (v : Vw) (O : List (Int × Bs)) (w : World) (hB : BB B w F b vb v O) : Calls Tryz.prog 15 #[.pointer (some ⟨b, 0, none⟩)] w (UViewP v w) := by
  obtain ⟨c0, hV, -, -⟩ := hB.view
  have HCl := hid (clone_any vb v w hV)
  clear hB hV
  go_enter Tryz.func15, Tryz.ntmps15
  go_wp2_with fail
  refine HCl.out.mono ?_; rintro r w2 ⟨rfl, hv, hb⟩
  have HV := hid hv
  have HW := hid hb
  clear hv hb HCl
  go_wp2_with fail
  go_ret
  exact ⟨_, rfl, HV.out, Nat.le_refl _, HW.out⟩
/-- what has gone out, handed on -/
def UOutsP (B b vb : Nat) (F : Nat → Prop) (v : Vw) (O : List (Int × Bs)) (w : World) (e : Ending) (w' : World) : Prop := ∃ a c, e = .returned (.slice a O.length c) ∧ OutB w' a O ∧ (∀ x, a = some x → F x.block) ∧ ∃ F', BB B w' F' b vb v [] ∧ Kp F F' w w' ∧ ∀ x, a = some x → ¬ F' x.block
set_option maxHeartbeats 1000000 in
theorem uouts_any (B b vb : Nat) (F : Nat → Prop) (v : Vw) (O : List (Int × Bs)) (w : World) (hB : BB B w F b vb v O) : Calls Tryz.prog 13 #[.pointer (some ⟨b, 0, none⟩)] w (UOutsP B b vb F v O w) := by
  obtain ⟨a, c, c1, f1, h1, h2, h3⟩ := bb_outs hB
  have HFin : Hid (UOutsP B b vb F v O w (.returned (.slice a O.length c)) (w.setCell ⟨b, 1, none⟩ (.slice none 0 0))) := ⟨a, c, rfl, h1, h2, h3⟩
  obtain ⟨n, hn⟩ : ∃ n, O.length = n := ⟨_, rfl⟩
  rw [hn] at c1 HFin
  clear h1 h2 h3 hB hn
  go_enter Tryz.func13, Tryz.ntmps13
  go_wp2_with fail
  go_ret
  exact HFin.out
set_option maxHeartbeats 1000000 in
theorem uping_any (B b vb : Nat) (F : Nat → Prop) (v : Vw) (O : List (Int × Bs)) (t : Int) (w : World) (hB : BB B w F b vb v O) (hE : Env w) (h7 : 7 ≤ B) (hs : v.self < 64) (hO : O.length ≤ 800000) :
    Calls Tryz.prog 22 #[.pointer (some ⟨b, 0, none⟩), .int .i64 t] w (BusP B b vb F v (O ++ tellO v 1 t) (.int .i64 (tellE v t)) w) := by
  have HT := hid (utell_any B b vb F v O 1 t w hB hE h7 hs hO)
  clear hB hE h7 hs hO
  go_enter Tryz.func22, Tryz.ntmps22
  go_wp2_with fail
  refine HT.out.mono ?_; rintro r w2 ⟨rfl, h⟩
  have H := hid h
  clear h HT
  go_wp2_with fail
  go_ret
  exact ⟨rfl, H.out⟩
end Go.Proofs.YtbfllifgmlkndaaGreatDoor
