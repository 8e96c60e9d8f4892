/- What the program's calls do (those that alive and SetsThree make); alive; few. -/
import Derived.Test.YtpbokncojemihaaOwn
namespace Go.Proofs.Ytpbokncojemihaa
open Go.RowKit

/-- texts that may be written, in a block that came -/
def Lw (n : Nat) (w : World) (q : Option Addr) (l : Row) : Prop := l ≠ [] → ∃ g o, q = some ⟨g, o, none⟩ ∧ n ≤ g ∧ ∀ i, i < l.length → (∃ v, w.cell? ⟨g, o + i, none⟩ = some v) ∧ w.frozen? ⟨g, o + i, none⟩ = false
/-- it ends, and changes nothing that was there -/
abbrev Ends (f : Nat) (args : Array Value) (w : World) : Prop := Calls Try.prog f args w fun e w' => ∃ v, e = .returned v ∧ Hid (Below w.heap.size w w')
/-- a row is told -/
abbrev Tells (f : Nat) (args : Array Value) (w : World) (l : Row) : Prop := Calls Try.prog f args w fun e w' => ∃ q d, e = .returned (.slice q l.length d) ∧ Hid (Rd w' q d l ∧ Below w.heap.size w w')
/-- a row of its own is told -/
abbrev TellsOwn (f : Nat) (args : Array Value) (w : World) (l : Row) : Prop := Calls Try.prog f args w fun e w' => ∃ q d, e = .returned (.slice q l.length d) ∧ Hid (Rd w' q d l ∧ Lw w.heap.size w' q l ∧ Below w.heap.size w w')
structure MethB : Prop where
  make : ∀ (p : Option Addr) (c : Nat) (l : Row) (w : World), Rd w p c l → l.length ≤ 1100000 → Tells 11 #[.slice p l.length c] w (mk l)
  has : ∀ (p : Option Addr) (c : Nat) (l : Row) (s : Nm) (w : World), Rd w p c l → l.length ≤ 1100000 → Ris l → Calls Try.prog 16 #[.slice p l.length c, txt s] w fun e w' => e = .returned (.bool (decide (s ∈ l))) ∧ Hid (Below w.heap.size w w')
  union : ∀ (p : Option Addr) (c : Nat) (a : Row) (p' : Option Addr) (c' : Nat) (b : Row) (w : World), Rd w p c a → Rd w p' c' b → a.length ≤ 1100000 → b.length ≤ 1100000 → Ris a → Ris b → Tells 23 #[.slice p a.length c, .slice p' b.length c'] w (insAll a b)
  meet : ∀ (p : Option Addr) (c : Nat) (a : Row) (p' : Option Addr) (c' : Nat) (b : Row) (w : World), Rd w p c a → Rd w p' c' b → a.length ≤ 1100000 → b.length ≤ 1100000 → Ris a → Ris b → Tells 25 #[.slice p a.length c, .slice p' b.length c'] w (meet a b)
  less : ∀ (p : Option Addr) (c : Nat) (a : Row) (p' : Option Addr) (c' : Nat) (b : Row) (w : World), Rd w p c a → Rd w p' c' b → a.length ≤ 1100000 → b.length ≤ 1100000 → Ris a → Ris b → Tells 26 #[.slice p a.length c, .slice p' b.length c'] w (less a b)
/-- a row that is laid here -/
theorem rd_lit (w : World) (l : Row) : Rd (w.alloc (.cells (l.map txt).toArray 9)) (some ⟨w.heap.size, 0, none⟩) l.length l :=
  ⟨fun _ => ⟨w.heap.size, 0, rfl, fun i hi => by rw [cell_of_row _ _ _ _ _ _ (heap_alloc_new w _)]; simp [hi]⟩, (fun h => by cases h), Nat.le_refl _⟩
/-- Same of the same -/
theorem same_yes (p1 : Option Addr) (c1 : Nat) (p2 : Option Addr) (c2 : Nat) (l : Row) (w : World) (h1 : Rd w p1 c1 l) (h2 : Rd w p2 c2 l) (hl : l.length ≤ 4000000) :
    Calls Try.prog 14 #[.slice p1 l.length c1, .slice p2 l.length c2] w fun e w' => e = .returned (.bool true) ∧ Hid (Below w.heap.size w w') := by
  have := same_any p1 c1 p2 c2 l l w h1.strs h2.strs hl
  rwa [show decide (l = l) = true by simp] at this
set_option maxHeartbeats 4000000 in
set_option maxRecDepth 100000 in
/-- alive -/
theorem alive_any (M : MethB) (w : World) : Calls Try.prog 10 #[] w fun e w' => e = .returned (.bool true) ∧ Hid (Below w.heap.size w w') := by
  have HM := hid M
  clear M
  have r1 : ∀ w : World, Rd (w.alloc (.cells #[txt [98], txt [97], txt [98]] 9)) (some ⟨w.heap.size, 0, none⟩) 3 [[98], [97], [98]] := fun w => rd_lit w [[98], [97], [98]]
  have r2 : ∀ w : World, Rd (w.alloc (.cells #[txt [97], txt [98]] 9)) (some ⟨w.heap.size, 0, none⟩) 2 [[97], [98]] := fun w => rd_lit w [[97], [98]]
  have r3 : ∀ w : World, Rd (w.alloc (.cells #[txt [97], txt [99]] 9)) (some ⟨w.heap.size, 0, none⟩) 2 [[97], [99]] := fun w => rd_lit w [[97], [99]]
  have r4 : ∀ w : World, Rd (w.alloc (.cells #[txt [98], txt [99]] 9)) (some ⟨w.heap.size, 0, none⟩) 2 [[98], [99]] := fun w => rd_lit w [[98], [99]]
  have r5 : ∀ w : World, Rd (w.alloc (.cells #[txt [97], txt [98], txt [99]] 9)) (some ⟨w.heap.size, 0, none⟩) 3 [[97], [98], [99]] := fun w => rd_lit w [[97], [98], [99]]
  have r6 : ∀ w : World, Rd (w.alloc (.cells #[txt [97]] 9)) (some ⟨w.heap.size, 0, none⟩) 1 [[97]] := fun w => rd_lit w [[97]]
  have r7 : ∀ w : World, Rd (w.alloc (.cells #[txt [99]] 9)) (some ⟨w.heap.size, 0, none⟩) 1 [[99]] := fun w => rd_lit w [[99]]
  have R1 := hid r1
  have R2 := hid r2
  have R3 := hid r3
  have R4 := hid r4
  have R5 := hid r5
  have R6 := hid r6
  have R7 := hid r7
  clear r1 r2 r3 r4 r5 r6 r7
  have HMk := hid fun (q : Option Addr) (W : World) (h : Rd W q 3 [[98], [97], [98]]) => HM.out.make q 3 [[98], [97], [98]] W h (by decide)
  rw [show mk [[98], [97], [98]] = [[97], [98]] by decide] at HMk
  have HUn := hid fun (p q : Option Addr) (W : World) (h : Rd W p 2 [[97], [99]]) (h' : Rd W q 2 [[98], [99]]) => HM.out.union p 2 [[97], [99]] q 2 [[98], [99]] W h h' (by decide) (by decide) (by unfold Ris; decide) (by unfold Ris; decide)
  rw [show insAll [[97], [99]] [[98], [99]] = [[97], [98], [99]] by decide] at HUn
  have HHs := hid fun (q : Option Addr) (W : World) (h : Rd W q 1 [[97]]) => HM.out.has q 1 [[97]] [97] W h (by decide) (by unfold Ris; decide)
  rw [show decide (([97] : Nm) ∈ ([[97]] : Row)) = true by decide] at HHs
  have HLs := hid fun (p q : Option Addr) (W : World) (h : Rd W p 2 [[97], [99]]) (h' : Rd W q 1 [[99]]) => HM.out.less p 2 [[97], [99]] q 1 [[99]] W h h' (by decide) (by decide) (by unfold Ris; decide) (by unfold Ris; decide)
  rw [show less [[97], [99]] [[99]] = [[97]] by decide] at HLs
  go_enter Try.func10, Try.ntmps10
  go_wp2_with fail
  refine (HMk.out _ _ (R1.out w)).mono ?_; rintro e w1 ⟨q1, d1, rfl, hh⟩
  have H1 := hid (hh.out.1.below (below_alloc w1 (.cells #[txt [97], txt [98]] 9)))
  have HW1 := hid (((below_alloc w _).trans (hh.out.2.mono (below_alloc w _).size)).trans ((below_alloc w1 (.cells #[txt [97], txt [98]] 9)).mono (Nat.le_trans (below_alloc w _).size hh.out.2.size)))
  clear hh
  go_wp2_with fail
  refine (same_yes _ _ _ _ [[97], [98]] _ H1.out (R2.out w1) (by decide)).mono ?_; rintro e w2 ⟨rfl, hh⟩
  have HW2 := hid (HW1.out.trans (hh.out.mono HW1.out.size))
  clear hh
  have HA2 := hid (below_alloc w2 (.cells #[txt [97], txt [99]] 9))
  have HA3 := hid (below_alloc (w2.alloc (.cells #[txt [97], txt [99]] 9)) (.cells #[txt [98], txt [99]] 9))
  have HA23 := hid (HA2.out.trans (HA3.out.mono HA2.out.size))
  have HW3 := hid (HW2.out.trans (HA23.out.mono HW2.out.size))
  have H3 := hid ((R3.out w2).below HA3.out)
  have h4 := R4.out (w2.alloc (.cells #[txt [97], txt [99]] 9))
  rw [show (w2.alloc (.cells #[txt [97], txt [99]] 9)).heap.size = w2.heap.size + 1 by simp] at h4
  have H4 := hid h4
  clear h4
  go_wp2_with fail
  refine (HUn.out _ _ _ H3.out H4.out).mono ?_; rintro e w4 ⟨q4, d4, rfl, hh⟩
  have H5 := hid (hh.out.1.below (below_alloc w4 (.cells #[txt [97], txt [98], txt [99]] 9)))
  have HW4 := hid (HW3.out.trans (hh.out.2.mono HW3.out.size))
  have HW5 := hid (HW4.out.trans ((below_alloc w4 (.cells #[txt [97], txt [98], txt [99]] 9)).mono HW4.out.size))
  clear hh
  go_wp2_with fail
  refine (same_yes _ _ _ _ [[97], [98], [99]] _ H5.out (R5.out w4) (by decide)).mono ?_; rintro e w6 ⟨rfl, hh⟩
  have HW6 := hid (HW5.out.trans (hh.out.mono HW5.out.size))
  have HW7 := hid (HW6.out.trans ((below_alloc w6 (.cells #[txt [97]] 9)).mono HW6.out.size))
  clear hh
  go_wp2_with fail
  refine (HHs.out _ _ (R6.out w6)).mono ?_; rintro e w8 ⟨rfl, hh⟩
  have HW8 := hid (HW7.out.trans (hh.out.mono HW7.out.size))
  clear hh
  have HA8 := hid (below_alloc w8 (.cells #[txt [97], txt [99]] 9))
  have HA9 := hid (below_alloc (w8.alloc (.cells #[txt [97], txt [99]] 9)) (.cells #[txt [99]] 9))
  have HA89 := hid (HA8.out.trans (HA9.out.mono HA8.out.size))
  have HW9 := hid (HW8.out.trans (HA89.out.mono HW8.out.size))
  have H8 := hid ((R3.out w8).below HA9.out)
  have h9 := R7.out (w8.alloc (.cells #[txt [97], txt [99]] 9))
  rw [show (w8.alloc (.cells #[txt [97], txt [99]] 9)).heap.size = w8.heap.size + 1 by simp] at h9
  have H9 := hid h9
  clear h9
  go_wp2_with fail
  refine (HLs.out _ _ _ H8.out H9.out).mono ?_; rintro e w10 ⟨q10, d10, rfl, hh⟩
  have H10 := hid (hh.out.1.below (below_alloc w10 (.cells #[txt [97]] 9)))
  have HW10 := hid (HW9.out.trans (hh.out.2.mono HW9.out.size))
  have HW11 := hid (HW10.out.trans ((below_alloc w10 (.cells #[txt [97]] 9)).mono HW10.out.size))
  clear hh
  go_wp2_with fail
  refine (same_yes _ _ _ _ [[97]] _ H10.out (R6.out w10) (by decide)).mono ?_; rintro e w12 ⟨rfl, hh⟩
  have HW12 := hid (HW11.out.trans (hh.out.mono HW11.out.size))
  clear hh
  go_wp2_with fail
  go_ret
  exact ⟨rfl, HW12.out⟩
set_option maxHeartbeats 1000000 in
set_option maxRecDepth 100000 in
/-- few -/
theorem few_any (p : Option Addr) (n c : Nat) (p' : Option Addr) (n' c' : Nat) (w : World) (V : Bool) (hV : V = decide (n ≤ 1000 ∧ n' ≤ 1000)) (hn : n ≤ 9223372036854775807) (hn' : n' ≤ 9223372036854775807) :
    Calls Try.prog 9 #[.slice p n c, .slice p' n' c'] w fun e w' => e = .returned (.bool V) ∧ w' = w := by
  have hnz : (n : Int) ≤ 9223372036854775807 := by omega
  have hnz' : (n' : Int) ≤ 9223372036854775807 := by omega
  by_cases h1 : (n : Int) ≤ 1000
  all_goals by_cases h2 : (n' : Int) ≤ 1000
  · obtain rfl : V = true := by rw [hV]; exact decide_eq_true ⟨by omega, by omega⟩
    clear hV
    go_enter Try.func9, Try.ntmps9
    go_wp2
    go_ret
    exact ⟨rfl, rfl⟩
  all_goals
    obtain rfl : V = false := by rw [hV]; exact decide_eq_false (by omega)
    clear hV
    go_enter Try.func9, Try.ntmps9
    go_wp2
    go_ret
    exact ⟨rfl, rfl⟩
theorem few_yes (p : Option Addr) (n c : Nat) (p' : Option Addr) (n' c' : Nat) (w : World) (h : n ≤ 1000) (h' : n' ≤ 1000) :
    Calls Try.prog 9 #[.slice p n c, .slice p' n' c'] w fun e w' => e = .returned (.bool true) ∧ w' = w := few_any p n c p' n' c' w true (decide_eq_true ⟨h, h'⟩).symm (by omega) (by omega)
theorem few_no (p : Option Addr) (n c : Nat) (p' : Option Addr) (n' c' : Nat) (w : World) (h : ¬ (n ≤ 1000 ∧ n' ≤ 1000)) (hn : n ≤ 9223372036854775807) (hn' : n' ≤ 9223372036854775807) :
    Calls Try.prog 9 #[.slice p n c, .slice p' n' c'] w fun e w' => e = .returned (.bool false) ∧ w' = w := few_any p n c p' n' c' w false (decide_eq_false h).symm hn hn'

end Go.Proofs.Ytpbokncojemihaa
