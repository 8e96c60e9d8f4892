/- PutP, RefPut. -/
import Derived.Test.YtppgifaegnmciaaDoorM23
import Derived.Deep.DeepCutAuto
import Derived.Test.YtppgifaegnmciaaDoorM16
namespace Go.Proofs.YtppgifaegnmciaaDoor

def argBad (x : E8) (now : Int) : Prop := 1024 < x.key.length ∨ x.ends < 0 ∨ 1099511627776 < x.ends ∨ (0 < x.ends ∧ x.ends ≤ now)
/-- one entry more is gone through: is the new one put ahead of it? -/
def stepI (x : E8) (s : List E8 × Bool) (y : E8) : List E8 × Bool := if s.2 = false ∧ x.key < y.key then (s.1 ++ [x] ++ [y], true) else (s.1 ++ [y], s.2)
def stI (x : E8) (l : List E8) : List E8 × Bool := l.foldl (stepI x) ([], false)
def insX (x : E8) (l : List E8) : List E8 := if (stI x l).2 = true then (stI x l).1 else (stI x l).1 ++ [x]
theorem stI_take {x : E8} {l : List E8} {i : Nat} (h : i < l.length) : stI x (l.take (i + 1)) = stepI x (stI x (l.take i)) l[i] := by
  unfold stI
  rw [List.take_succ_eq_append_getElem h, List.foldl_append]
  rfl
theorem stI_mem (x : E8) (l : List E8) : (∀ y ∈ (stI x l).1, y = x ∨ y ∈ l) := by
  have key : ∀ (l : List E8) (s : List E8 × Bool), ∀ y ∈ (l.foldl (stepI x) s).1, y = x ∨ y ∈ s.1 ∨ y ∈ l := by
    intro l
    induction l with
    | nil => intro s y hy; exact .inr (.inl hy)
    | cons z l ih =>
      intro s y hy
      rcases ih _ y hy with h | h | h
      · exact .inl h
      · unfold stepI at h
        split at h
        · rcases List.mem_append.1 h with h | h
          · rcases List.mem_append.1 h with h | h
            · exact .inr (.inl h)
            · exact .inl (List.mem_singleton.1 h)
          · exact .inr (.inr (by rw [List.mem_singleton.1 h]; exact List.mem_cons_self))
        · rcases List.mem_append.1 h with h | h
          · exact .inr (.inl h)
          · exact .inr (.inr (by rw [List.mem_singleton.1 h]; exact List.mem_cons_self))
      · exact .inr (.inr (List.mem_cons_of_mem _ h))
  intro y hy
  rcases key l ([], false) y hy with h | h | h
  · exact .inl h
  · cases h
  · exact .inr h
theorem insX_mem {x : E8} {l : List E8} : ∀ y ∈ insX x l, y = x ∨ y ∈ l := by
  intro y hy
  unfold insX at hy
  split at hy
  · exact stI_mem x l y hy
  · rcases List.mem_append.1 hy with h | h
    · exact stI_mem x l y h
    · exact .inl (List.mem_singleton.1 h)
theorem stI_len (x : E8) (l : List E8) : (stI x l).1.length ≤ l.length + 1 := by
  have key : ∀ (l : List E8) (s : List E8 × Bool), (l.foldl (stepI x) s).1.length ≤ s.1.length + l.length + (if s.2 = true then 0 else 1) := by
    intro l
    induction l with
    | nil => intro s; simp
    | cons z l ih =>
      intro s
      have := ih (stepI x s z)
      rw [List.foldl_cons]
      refine Nat.le_trans this ?_
      unfold stepI
      split
      · rename_i h; simp [h.1]; omega
      · simp; omega
  have := key l ([], false)
  simp at this
  exact this
open Classical in
/-- what Put answers, and what it leaves -/
noncomputable def putE (R : List E8) (room now : Int) (x : E8) : Int :=
  if argBad x now then 1 else if rightB x.m = false then 100
  else if ((getR x.key R).isSome = false ∧ 4096 ≤ R.length) ∨ (room < ((memR (delR x.key R) + tk x : Nat) : Int) ∧ memR R < memR (delR x.key R) + tk x) then 110 else 0
noncomputable def putR (R : List E8) (room now : Int) (x : E8) : List E8 := if putE R room now x = 0 then insX x (delR x.key R) else R
theorem putE_arg {R : List E8} {room now : Int} {x : E8} (h : argBad x now) : putE R room now x = 1 := if_pos h
theorem putE_form {R : List E8} {room now : Int} {x : E8} (h : ¬ argBad x now) (h2 : rightB x.m = false) : putE R room now x = 100 := by unfold putE; rw [if_neg h, if_pos h2]
theorem putE_full {R : List E8} {room now : Int} {x : E8} (h : ¬ argBad x now) (h2 : rightB x.m = true) (h3 : ((getR x.key R).isSome = false ∧ 4096 ≤ R.length) ∨ (room < ((memR (delR x.key R) + tk x : Nat) : Int) ∧ memR R < memR (delR x.key R) + tk x)) : putE R room now x = 110 := by
  unfold putE; rw [if_neg h, if_neg (by rw [h2]; decide), if_pos h3]
theorem putE_ok {R : List E8} {room now : Int} {x : E8} (h : ¬ argBad x now) (h2 : rightB x.m = true) (h3 : ¬ (((getR x.key R).isSome = false ∧ 4096 ≤ R.length) ∨ (room < ((memR (delR x.key R) + tk x : Nat) : Int) ∧ memR R < memR (delR x.key R) + tk x))) : putE R room now x = 0 := by
  unfold putE; rw [if_neg h, if_neg (by rw [h2]; decide), if_neg h3]
theorem putR_no {R : List E8} {room now : Int} {x : E8} (h : putE R room now x ≠ 0) : putR R room now x = R := if_neg h
theorem putR_ok {R : List E8} {room now : Int} {x : E8} (h : putE R room now x = 0) : putR R room now x = insX x (delR x.key R) := if_pos h

end Go.Proofs.YtppgifaegnmciaaDoor

namespace Go.Proofs.YtppgifaegnmciaaDoor
open Go.RowKit

theorem al_three (w : World) (a b d : Obj) : Below w.heap.size w (((w.alloc a).alloc b).alloc d) ∧ (((w.alloc a).alloc b).alloc d).heap[w.heap.size]? = some a ∧ (((w.alloc a).alloc b).alloc d).heap[w.heap.size + 1]? = some b ∧ (((w.alloc a).alloc b).alloc d).heap[w.heap.size + 2]? = some d ∧ (((w.alloc a).alloc b).alloc d).heap.size = w.heap.size + 3 := by
  have h := al_two w a b
  have hb := below_alloc ((w.alloc a).alloc b) d
  have hn := heap_alloc_new ((w.alloc a).alloc b) d
  rw [h.2.2.2] at hb hn
  exact ⟨h.1.trans (hb.mono (by omega)), (hb.block _ (by omega)).trans h.2.1, (hb.block _ (by omega)).trans h.2.2.1, hn, by simp⟩
theorem Rde.pn {P : Nat → Prop} {w W : World} {pa : Option Addr} {c : Nat} {R : List E8} (h : Rde P w pa c R) (hb : Below w.heap.size w W) : Rde (Pn P w.heap.size) W pa c R := h.keep (Keep.of_below hb) (fun _ hi => .inl hi)

theorem put_rde {B : Nat} {P : Nat → Prop} {w W : World} {p q : Option Addr} {c n d : Nat} {R S : List E8} {x : E8} (h : Rde P w p c R) (hx : Lies P w x) (hb : Below w.heap.size w W) (ho : OwnE B W (.slice q n d) S) (hB : w.heap.size ≤ B) (hS : ∀ y ∈ S, y = x ∨ y ∈ R) : Rde (Pn P w.heap.size) W q d S :=
  ho.rde (fun k hk => .inr (by omega)) (fun y hy => by
    rcases hS y hy with rfl | h'
    · exact hx.keep (Keep.of_below hb) (fun _ hi => .inl hi)
    · exact (h.lies y h').keep (Keep.of_below hb) (fun _ hi => .inl hi))
end Go.Proofs.YtppgifaegnmciaaDoor
