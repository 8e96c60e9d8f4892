/- The law RespWrites, walked. -/
import Derived.Test.YtjcegiponjpjiaaDoorConv
import Derived.Test.YtjcegiponjpjiaaDoorRefCommand
namespace Go.Proofs.YtjcegiponjpjiaaDoor
open Go.RowKit

theorem dec_le (n : Nat) (h : n ≤ 9223372036854775807) : (dec n).length ≤ 30 := dec_short n h
theorem cmd_len (l : List (List UInt8)) (h : (l.map (·.length + 1)).sum ≤ 1048576) : (cmd l).length ≤ 140737488300000 ∧ l.length ≤ 1048576 := by
  have h1 : ∀ m : List (List UInt8), (m.map (·.length + 1)).sum ≤ 1048576 → ((m.map item).flatten).length ≤ 100 * (m.map (·.length + 1)).sum ∧ m.length ≤ (m.map (·.length + 1)).sum := by
    intro m
    induction m with
    | nil => intro _; simp
    | cons x m ih =>
      intro hm
      rw [List.map_cons, List.sum_cons] at hm
      have h2 := ih (by omega)
      have h3 := dec_le x.length (by omega)
      rw [List.map_cons, List.flatten_cons, List.length_append, List.map_cons, List.sum_cons, List.length_cons]
      have h4 : (item x).length = 1 + (dec x.length).length + 2 + x.length + 2 := by simp [item]; omega
      omega
  have h2 := h1 l h
  refine ⟨?_, by omega⟩
  unfold cmd cmdTo
  rw [List.take_length]
  have h3 := dec_le l.length (by omega)
  simp only [List.length_append, List.length_cons, List.length_nil]
  omega
set_option maxHeartbeats 2000000 in
set_option maxRecDepth 100000 in
theorem respWrites_walk (p : Option Addr) (l : List (List UInt8)) (cap : Nat) (w : World) (hE : Env w ∧ Envs w) (hS : Strs w p l) (hu : (l.map (·.length + 1)).sum ≤ 1048576) :
    Calls Tryd.prog 6 #[.slice p l.length cap] w fun e w' => e = .returned (.bool true) ∧ Below w.heap.size w w' := by
  have HA := hid (alive_any w hE.2)
  obtain ⟨hcl, hll⟩ := cmd_len l hu
  by_cases h200 : 200 < l.length
  · have hz : (200 : Int) < (l.length : Int) := by omega
    clear hE hS hu hcl
    go_enter Tryd.func6, Tryd.ntmps6
    go_wp2_with fail
    refine HA.out.mono ?_; rintro e w1 ⟨rfl, hb1⟩
    have HB1 := hid hb1.out
    clear hb1
    go_wp2
    go_ret
    exact ⟨rfl, HB1.out⟩
  · have hz : ¬ ((200 : Int) < (l.length : Int)) := by omega
    have HE := hid hE
    have HS := hid hS
    have HCl := hid hcl
    clear hE hS hu hcl
    go_enter Tryd.func6, Tryd.ntmps6
    go_wp2_with fail
    refine HA.out.mono ?_; rintro e w1 ⟨rfl, hb1⟩
    have hb1' := hb1.out
    have hS1 := HS.out.below hb1' (Nat.le_refl _)
    have HC := hid (command_any p l cap w1 (HE.out.1.below hb1' HE.out.1.room) hS1 HCl.out (by omega))
    have HB1 := hid hb1'
    have HS1 := hid hS1
    clear hb1 hb1' hS1 HA HS
    go_wp2_with fail
    refine HC.out.mono ?_; rintro e w2 ⟨rfl, hb2⟩
    have HC2 := hid (rCommand_any p l cap w2 (HS1.out.below hb2 (Nat.le_refl _)) HCl.out (by omega))
    have HB2 := hid (HB1.out.trans (hb2.mono HB1.out.size))
    clear hb2 HC HB1 HS1
    generalize cmd l = C at HC2 ⊢
    go_wp2_with fail
    refine HC2.out.mono ?_; rintro e w3 ⟨rfl, hb3⟩
    have HB3 := hid (HB2.out.trans (hb3.mono HB2.out.size))
    clear hb3 HC2 HB2
    go_wp2
    go_ret
    exact ⟨ret_bool (by simp), HB3.out⟩

end Go.Proofs.YtjcegiponjpjiaaDoor
