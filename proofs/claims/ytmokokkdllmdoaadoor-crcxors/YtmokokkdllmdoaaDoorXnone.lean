/- Two texts xored, one of them empty: the walk of the law CrcXors. -/
import Derived.Test.YtmokokkdllmdoaaDoorXors
namespace Go.Proofs.YtmokokkdllmdoaaDoor
open Go.RowKit
open Crc

theorem slice_zero (a : Option Addr) (ln cap : Nat) : ∃ a', ∀ w, (Instr.slice 22 (.slice a ln cap) none (some (.int .i64 0)) none).run Tryd.prog w = .ok (.slice a' 0 cap) w := by
  cases a with
  | none => exact ⟨_, fun w => by simp [Instr.slice, run_underlying Tryd.underlying22, Instr.sliceBounds, go_sem]; rfl⟩
  | some ad => exact ⟨_, fun w => by simp [Instr.slice, run_underlying Tryd.underlying22, Instr.sliceBounds, go_sem]; rfl⟩

theorem own_none (w : World) : Below w.heap.size w (w.alloc (.cells (cellsOf (List.replicate 0 0#8)).toArray 5)) := (Below.refl w.heap.size w).alloc (Nat.le_refl _) _

set_option maxHeartbeats 4000000 in
theorem xors_none (a a2 : Option Addr) (cap ln cap2 mn : Nat) (w : World) (hn : (ln = 0 ∧ ¬ mn < ln) ∨ (mn = 0 ∧ mn < ln)) (ht : Tab w) :
    Calls Tryd.prog 7 #[.slice a ln cap, .slice a2 mn cap2] w fun e w' => e = .returned (.bool true) ∧ Below w.heap.size w w' := by
  obtain ⟨a', ha⟩ := slice_zero a ln cap
  obtain ⟨a2', ha2⟩ := slice_zero a2 mn cap2
  have hmk : ∀ u : World, (Instr.makeSlice 22 (.int .i64 0) (.int .i64 0)).run Tryd.prog u = .ok (.slice (some ⟨u.heap.size, 0, none⟩) 0 0) (u.alloc (.cells (cellsOf (List.replicate 0 0#8)).toArray 5)) := make_run 0 (by omega)
  have HB := hid (own_none w)
  have HA := hid (ht.below HB.out)
  have HS : Hid (∀ (q : Option Addr) (c : Nat) W, Below w.heap.size w W → Calls Tryd.prog 10 #[.slice q 0 c] W fun e w' => e = .returned (.int .u16 0) ∧ w' = W) := fun q c W hW => sum_any q c [] W (ht.below hW) ⟨by simp, fun h => absurd rfl h⟩
  have hx0 : bits BinOp.xor IntKind.u16 0 0 = 0 := by decide
  generalize (cellsOf (List.replicate 0 0#8)).toArray = C at hmk HB HA
  clear ht
  rcases hn with ⟨rfl, hn⟩ | ⟨rfl, hn⟩
  all_goals
    go_enter Tryd.func7, Tryd.ntmps7
    go_wp2
    refine wp_loop_rounds 1 ?_
    rw [rounds_succ]
    clear hmk
    go_wp2
    go_region_with (first
      | (go_at_call 9; refine (alive_any _ HA.out.drew).mono ?_; rintro e w1 ⟨rfl, hb⟩; replace hb := hid (HB.out.trans ((undrew hb).mono HB.out.size)))
      | (go_at_call 10; refine (HS.out _ _ _ hb.out).mono ?_; rintro e w' ⟨rfl, rfl⟩))
    all_goals go_wp2
    all_goals go_ret
    all_goals exact ⟨rfl, hb.out⟩

/-- the law's call, of whatever texts -/
theorem xors_walk (a : Option Addr) (cap : Nat) (l : List (BitVec 8)) (a2 : Option Addr) (cap2 : Nat) (m : List (BitVec 8)) (w : World) (ht : Tab w) (hr : Row w a l) (hcap : l.length ≤ cap) (hl : l.length ≤ 140737488351232) (hr2 : Row w a2 m) (hcap2 : m.length ≤ cap2) (hm : m.length ≤ 140737488351232) :
    Calls Tryd.prog 7 #[.slice a l.length cap, .slice a2 m.length cap2] w fun e w' => e = .returned (.bool true) ∧ Below w.heap.size w w' := by
  by_cases h1 : l = []
  · subst h1
    exact xors_none a a2 cap _ cap2 _ w (.inl ⟨rfl, by simp⟩) ht
  · by_cases h2 : m = []
    · subst h2
      exact xors_none a a2 cap _ cap2 _ w (.inr ⟨rfl, List.length_pos_iff.2 h1⟩) ht
    · obtain ⟨b, off, rfl, hc⟩ := hr.2 h1
      obtain ⟨b2, off2, rfl, hc2⟩ := hr2.2 h2
      by_cases hlm : m.length < l.length
      · exact xors_pos b off cap _ l b2 off2 cap2 _ m w m.length (.inr ⟨rfl, hlm⟩) hcap hcap2 ht hl hm rfl rfl hc hc2
      · exact xors_pos b off cap _ l b2 off2 cap2 _ m w l.length (.inl ⟨rfl, hlm⟩) hcap hcap2 ht hl hm rfl rfl hc hc2

end Go.Proofs.YtmokokkdllmdoaaDoor
