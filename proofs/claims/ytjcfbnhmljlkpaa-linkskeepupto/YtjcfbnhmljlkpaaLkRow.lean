/- Rows of texts: the document's Same. -/
import Derived.Test.YtjcfbnhmljlkpaaRefSame
import Derived.BigQuiet
namespace Go.Proofs.Ytjcfbnhmljlkpaa
open Go.RowKit

/-- a row of texts that may be read -/
def TxR (P : Nat → Prop) (w : World) (p : Option Addr) (l : List (List UInt8)) : Prop :=
  l ≠ [] → ∃ b o, p = some ⟨b, o, none⟩ ∧ P b ∧ ∀ i (h : i < l.length), w.cell? ⟨b, o + i, none⟩ = some (txt l[i])
set_option maxHeartbeats 2000000 in
set_option maxRecDepth 100000 in
/-- ref06 Same -/
theorem qsame_any (P Q : Nat → Prop) (p1 p2 : Option Addr) (c1 c2 : Nat) (l m : List (List UInt8)) (w : World) (h1 : TxR P w p1 l) (h2 : TxR Q w p2 m) (hl : l.length ≤ 1000000) :
    Calls Try.prog 27 #[.slice p1 l.length c1, .slice p2 m.length c2] w fun e w' => e = .returned (.bool (decide (l = m))) ∧ Hid (Below w.heap.size w w') := by
  obtain ⟨V, hV⟩ : ∃ V, V = decide (l = m) := ⟨_, rfl⟩
  rw [← hV]
  have HV := hid hV
  clear hV
  by_cases hlen : l.length = m.length
  · have H1 := hid h1
    have H2 := hid h2
    have HL := hid hlen
    rw [← hlen]
    have hne : ((l.length : Int) != (l.length : Int)) = false := by simp
    clear h1 h2 hlen
    go_enter Try.func27, Try.ntmps27
    go_wp2
    go_loopw [5] (fun v5 W => ∃ k : Nat, v5 = .int .i64 k ∧ k ≤ l.length ∧ Hid (l.drop k = m.drop k ↔ l = m) ∧ Hid (Below w.heap.size w W)) (fun v5 _ => l.length - (intOf v5).toNat)
    case atStart => exact ⟨0, rfl, Nat.zero_le _, by simp [Hid], Below.refl _ _⟩
    case round =>
      obtain ⟨k, rfl, hk, HD, HB⟩ := hrel
      by_cases hlt : k < l.length
      · have hlt2 : k < m.length := by rw [← HL.out]; exact hlt
        have hlz : (k : Int) < (l.length : Int) := by omega
        obtain ⟨g1, o1, rfl, -, hc1⟩ := H1.out (fun e => by rw [e] at hlt; simp at hlt)
        obtain ⟨g2, o2, rfl, -, hc2⟩ := H2.out (fun e => by rw [e] at hlt2; simp at hlt2)
        have hg1 := block_lt_of_cell (hc1 k hlt)
        have hg2 := block_lt_of_cell (hc2 k hlt2)
        have x1 : wr.cell? ⟨g1, o1 + k, none⟩ = some (txt l[k]) := by rw [HB.out.cell (p := ⟨g1, o1 + k, none⟩) hg1]; exact hc1 k hlt
        have x2 : wr.cell? ⟨g2, o2 + k, none⟩ = some (txt m[k]) := by rw [HB.out.cell (p := ⟨g2, o2 + k, none⟩) hg2]; exact hc2 k hlt2
        have HS := hid (drop_step hlt)
        have HS2 := hid (drop_step hlt2)
        generalize l[k] = s at *
        generalize m[k] = t at *
        clear hc1 hc2
        by_cases hst : s = t
        · subst hst
          have HD2 : Hid (l.drop (k + 1) = m.drop (k + 1) ↔ l = m) := by
            have := HD.out
            rw [HS.out, HS2.out] at this
            exact ⟨fun h => this.1 (by rw [h]), fun h => (List.cons.inj (this.2 h)).2⟩
          go_wp2_with fail
          go_quiet (fail)
          go_wp2_with fail
          exact ⟨⟨k + 1, by go_num, by omega, HD2.out, by first | exact HB.out | exact HB.out.drew | exact below_redrawn HB.out _⟩, by simp [intOf]; omega⟩
        · obtain rfl : V = false := by
            rw [HV.out]
            refine decide_eq_false fun h => hst ?_
            have := HD.out.2 h
            rw [HS.out, HS2.out] at this
            exact (List.cons.inj this).1
          have hn : (s == t) = false := beq_eq_false_iff_ne.2 hst
          clear hst
          go_wp2_with fail
          go_quiet (fail)
          go_wp2_with fail
          go_ret
          first | exact ⟨rfl, HB.out⟩ | exact ⟨rfl, HB.out.drew⟩ | exact ⟨rfl, below_redrawn HB.out _⟩
      · obtain rfl : V = true := by
          rw [HV.out]
          refine decide_eq_true (HD.out.1 ?_)
          rw [List.drop_eq_nil_of_le (by omega), List.drop_eq_nil_of_le (by have := HL.out; omega)]
        go_wp2
        go_ret
        exact ⟨rfl, HB.out⟩
  · obtain rfl : V = false := by rw [HV.out]; exact decide_eq_false fun h => hlen (by rw [h])
    have hne : ((l.length : Int) != (m.length : Int)) = true := by simp; omega
    clear h1 h2
    go_enter Try.func27, Try.ntmps27
    go_wp2
    go_ret
    exact ⟨rfl, Below.refl _ _⟩

end Go.Proofs.Ytjcfbnhmljlkpaa
