/- The program's dict: place. -/
import Derived.Test.YtphegggekcjenaaDoorDIBase
import Derived.Deep.RegionLaw
import Derived.WalkLawsBesides
namespace Go.Proofs.YtphegggekcjenaaDoor.DI
open Go.RowKit

set_option maxHeartbeats 1000000 in
set_option maxRecDepth 100000 in
/-- place -/
theorem place_any (u : Value) (l : Its Int) (n : Nm) (w : World) (h : Room w u l) (hl : l.length ≤ 9223372036854775807) :
    Calls Tryd.prog 48 #[u, txt n] w fun e w' => e = .returned (.int .i64 (plcI n l)) ∧ w' = w := by
  obtain ⟨p, c, rfl⟩ := h.shape
  have H := hid h
  clear h
  go_enter Tryd.func48, Tryd.ntmps48
  go_wp2
  go_loop [5, 8] (fun _ v8 => ∃ i : Nat, v8 = .int .i64 i ∧ i ≤ l.length ∧ Hid (∀ j (hj : j < l.length), j < i → l[j].1 ≠ n)) (fun _ v8 => l.length - (intOf v8).toNat)
  case atStart => exact ⟨0, rfl, Nat.zero_le _, fun j hj h => by omega⟩
  case round =>
    obtain ⟨i, rfl, hi, HN⟩ := hrel
    by_cases hlt : i < l.length
    · obtain ⟨g, rfl, hc⟩ := H.out.cells i hlt
      have x0 := (hc i hlt).1
      have hlz : (i : Int) < (l.length : Int) := by omega
      by_cases he : l[i].1 = n
      · have HP := hid (plcI_some (plc_at i hlt he HN.out))
        rw [he] at x0
        clear hc he
        go_wp2
        go_ret
        exact ⟨ret_int HP.out.symm, rfl⟩
      · have HE := hid he
        have hne : (l[i].1 == n) = false := by
          rw [beq_eq_false_iff_ne]
          exact he
        clear hc he
        go_wp2
        exact ⟨⟨i + 1, by go_num, by omega, fun j hj hji => by
          by_cases e : j = i
          · subst e; exact HE.out
          · exact HN.out j hj (by omega)⟩, by simp [intOf]; omega⟩
    · have HP := hid (plcI_none (plc_not (fun j hj => HN.out j hj (by omega))))
      go_wp2
      go_ret
      exact ⟨ret_int HP.out.symm, rfl⟩

end Go.Proofs.YtphegggekcjenaaDoor.DI
