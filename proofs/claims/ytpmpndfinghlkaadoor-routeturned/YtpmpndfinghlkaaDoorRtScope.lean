/- A scope through which the run jumps from label to label, a few times. -/
import Derived.Test.YtpmpndfinghlkaaDoorCore
import Derived.ScopeJumps
namespace Go.Proofs.YtpmpndfinghlkaaDoor
open Go Go.RowKit

/-- as Q; a goto goes on behind its label, n times at the most -/
def Jmp (P : Program) (c : Code) (Q : Exit → Act → World → Prop) : Nat → Exit → Act → World → Prop
  | 0, .goto _, _, _ => False
  | n + 1, .goto l, a, w => ∃ rest, findLabel c l = some rest ∧ rest.wp P (Jmp P c Q n) a w
  | _, e, a, w => Q e a w
theorem jmp_ret {P : Program} {c : Code} {Q : Exit → Act → World → Prop} {n : Nat} {a : Act} {w : World} (h : Q .ret a w) : Jmp P c Q n .ret a w := by cases n <;> exact h
theorem jmp_ret_eq {P : Program} {c : Code} {Q : Exit → Act → World → Prop} {n : Nat} {a : Act} {w : World} : Jmp P c Q n .ret a w = Q .ret a w := by cases n <;> rfl
theorem jmp_goto {P : Program} {c rest : Code} {Q : Exit → Act → World → Prop} {n : Nat} {l : Nat} {a : Act} {w : World} (hf : findLabel c l = some rest) (h : rest.wp P (Jmp P c Q n) a w) : Jmp P c Q (n + 1) (.goto l) a w := ⟨rest, hf, h⟩
theorem wp_scope_few {P : Program} {c : Code} {Q : Exit → Act → World → Prop} {a : Act} {w : World} (n : Nat) (first : c.wp P (Jmp P c Q n) a w) : (Code.scope c).wp P Q a w := by
  intro b k cs
  have key : ∀ (n : Nat) (c' : Code) a w, c'.wp P (Jmp P c Q n) a w → ∃ e a' w', Q e a' w' ∧ Arrives P (lone (b.at a (.code c' :: .inScope c :: k)) cs w) b k cs e a' w' := by
    intro n
    induction n with
    | zero =>
      intro c' a w h
      obtain ⟨e, a₁, w₁, hq, harr⟩ := h b (.inScope c :: k) cs
      cases e with
      | normal => exact ⟨.normal, a₁, w₁, hq, Steps.trans harr (.one step_inScope)⟩
      | exit id => exact ⟨.exit id, a₁, w₁, hq, fun k' hk => harr k' (by simp [exitTo, hk])⟩
      | goto l' => exact absurd hq (fun h => h)
      | ret => exact ⟨_, a₁, w₁, hq, harr⟩
      | panic ch => exact ⟨_, a₁, w₁, hq, harr⟩
      | outgrown => exact ⟨_, a₁, w₁, hq, harr⟩
    | succ n ih =>
      intro c' a w h
      obtain ⟨e, a₁, w₁, hq, harr⟩ := h b (.inScope c :: k) cs
      cases e with
      | normal => exact ⟨.normal, a₁, w₁, hq, Steps.trans harr (.one step_inScope)⟩
      | exit id => exact ⟨.exit id, a₁, w₁, hq, fun k' hk => harr k' (by simp [exitTo, hk])⟩
      | goto l' =>
        obtain ⟨rest, hf, hr⟩ := hq
        obtain ⟨e₂, a₂, w₂, hq₂, harr₂⟩ := ih rest a₁ w₁ hr
        have hg : gotoIn l' (.inScope c :: k) = some (.code rest :: .inScope c :: k) := by simp [gotoIn, hf]
        exact ⟨e₂, a₂, w₂, hq₂, .of_steps (harr _ hg) harr₂⟩
      | ret => exact ⟨_, a₁, w₁, hq, harr⟩
      | panic ch => exact ⟨_, a₁, w₁, hq, harr⟩
      | outgrown => exact ⟨_, a₁, w₁, hq, harr⟩
  obtain ⟨e, a₁, w₁, hq, harr⟩ := key n c a w first
  exact ⟨e, a₁, w₁, hq, .of_steps (.one step_scope) harr⟩
/-- the same, with what stands behind the scope behind a name -/
theorem wp_scope_hid {P : Program} {c : Code} {Q : Exit → Act → World → Prop} {a : Act} {w : World} (n : Nat)
    (h : ∀ J : Nat → Exit → Act → World → Prop, Hid (∀ n a w, Q .ret a w → J n .ret a w) → Hid (∀ n l rest a w, findLabel c l = some rest → rest.wp P (J n) a w → J (n + 1) (.goto l) a w) → c.wp P (J n) a w) : (Code.scope c).wp P Q a w :=
  wp_scope_few n (h (Jmp P c Q) (fun _ _ _ h => jmp_ret h) (fun _ _ _ _ _ hf h => jmp_goto hf h))

end Go.Proofs.YtpmpndfinghlkaaDoor
