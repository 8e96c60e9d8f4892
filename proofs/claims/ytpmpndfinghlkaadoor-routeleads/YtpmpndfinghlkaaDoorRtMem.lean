/- A case in memory; the decision of a case, as plain mathematics. -/
import Derived.Test.YtpmpndfinghlkaaDoorCore
namespace Go.Proofs.YtpmpndfinghlkaaDoor
open Go.RowKit

/-- a row of numbers that may be read -/
def IntsR (w : World) (a : Option Addr) (L : List Int) : Prop := L ≠ [] → ∃ b o, a = some ⟨b, o, none⟩ ∧ b < w.heap.size ∧ ∀ j (h : j < L.length), w.cell? ⟨b, o + j, none⟩ = some (.int .i64 L[j])
/-- a row of Bools that may be read -/
def BoolsR (w : World) (a : Option Addr) (L : List Bool) : Prop := L ≠ [] → ∃ b o, a = some ⟨b, o, none⟩ ∧ b < w.heap.size ∧ ∀ j (h : j < L.length), w.cell? ⟨b, o + j, none⟩ = some (.bool L[j])
theorem IntsR.below {w w' : World} {n : Nat} {a : Option Addr} {L : List Int} (h : IntsR w a L) (hb : Below n w w') (hn : w.heap.size ≤ n) : IntsR w' a L := fun hne => by
  obtain ⟨b, o, rfl, h1, h2⟩ := h hne
  refine ⟨b, o, rfl, Nat.lt_of_lt_of_le h1 hb.size, fun j hj => ?_⟩
  rw [hb.cell (p := ⟨b, o + j, none⟩) (by show b < n; omega)]
  exact h2 j hj
theorem BoolsR.below {w w' : World} {n : Nat} {a : Option Addr} {L : List Bool} (h : BoolsR w a L) (hb : Below n w w') (hn : w.heap.size ≤ n) : BoolsR w' a L := fun hne => by
  obtain ⟨b, o, rfl, h1, h2⟩ := h hne
  refine ⟨b, o, rfl, Nat.lt_of_lt_of_le h1 hb.size, fun j hj => ?_⟩
  rw [hb.cell (p := ⟨b, o + j, none⟩) (by show b < n; omega)]
  exact h2 j hj
/-- a command that comes to a node -/
structure CaseV where
  self : Int
  owner : Int
  mig : Int
  imp : Int
  token : Int
  asking : Int
  slots : List Int
  here : List Bool
  held : List Bool
/-- what becomes of it -/
structure DecV where
  kind : Int
  slot : Int
  node : Int
  token : Int
def decCells (d : DecV) : Array Value := #[.int .i64 d.kind, .int .i64 d.slot, .int .i64 d.node, .int .i64 d.token]
/-- a case, as cells: where its rows lie -/
def caseCells (c : CaseV) (a : Option Addr) (ca : Nat) (h : Option Addr) (ch : Nat) (d : Option Addr) (cd : Nat) : Array Value :=
  #[.int .i64 c.self, .int .i64 c.owner, .int .i64 c.mig, .int .i64 c.imp, .int .i64 c.token, .int .i64 c.asking, .slice a c.slots.length ca, .slice h c.here.length ch, .slice d c.held.length cd]
/-- its rows may be read -/
structure CaseR (w : World) (c : CaseV) (a h d : Option Addr) : Prop where
  slots : IntsR w a c.slots
  here : BoolsR w h c.here
  held : BoolsR w d c.held
theorem CaseR.below {w w' : World} {n : Nat} {c : CaseV} {a h d : Option Addr} (k : CaseR w c a h d) (hb : Below n w w') (hn : w.heap.size ≤ n) : CaseR w' c a h d := ⟨k.slots.below hb hn, k.here.below hb hn, k.held.below hb hn⟩
/-- is one told to be? -/
def atB (L : List Bool) (i : Nat) : Bool := L.getD i false
def someB (L : List Bool) : Nat → Bool
  | 0 => false
  | k + 1 => someB L k || atB L k
def allB (L : List Bool) : Nat → Bool
  | 0 => true
  | k + 1 => allB L k && atB L k
/-- are the first k slots that of the first key? -/
def sameS (L : List Int) (s : Int) : Nat → Bool
  | 0 => true
  | k + 1 => sameS L s k && decide (L.getD k 0 = s)
theorem sameS_le {L : List Int} {s : Int} {j : Nat} (h : sameS L s j = true) : ∀ k, k ≤ j → sameS L s k = true := by
  induction j with
  | zero => intro k hk; obtain rfl : k = 0 := by omega
            rfl
  | succ j ih =>
    intro k hk
    simp only [sameS, Bool.and_eq_true] at h
    by_cases e : k = j + 1
    · subst e; simp only [sameS, Bool.and_eq_true]; exact h
    · exact ih h.1 k (by omega)
theorem sameS_not {L : List Int} {s : Int} {k : Nat} (h : L.getD k 0 ≠ s) : ∀ n, k < n → sameS L s n = false := fun n hn => by
  cases e : sameS L s n with
  | false => rfl
  | true =>
    have := sameS_le e (k + 1) (by omega)
    simp only [sameS, Bool.and_eq_true, decide_eq_true_eq] at this
    exact absurd this.2 h
/-- the decision, behind the keys -/
def restV (c : CaseV) (s : Int) (some' all held : Bool) : DecV :=
  if c.owner = c.self then
    (if held = true then ⟨4, s, 0, 0⟩ else if c.mig < 0 ∨ all = true then ⟨1, s, 0, 0⟩ else if some' = true then ⟨4, s, 0, 0⟩ else ⟨3, s, c.mig, c.token⟩)
  else if 0 ≤ c.imp ∧ 0 < c.asking ∧ c.asking = c.token then
    (if held = true ∨ (1 < c.slots.length ∧ all = false) then ⟨4, s, 0, 0⟩ else ⟨1, s, 0, 0⟩)
  else if c.owner < 0 then ⟨6, s, 0, 0⟩ else ⟨2, s, c.owner, 0⟩
def decideV (c : CaseV) : DecV :=
  if c.slots.length = 0 then ⟨1, 0, 0, 0⟩ else
  if sameS c.slots (c.slots.getD 0 0) c.slots.length = false then ⟨5, c.slots.getD 0 0, 0, 0⟩ else
  restV c (c.slots.getD 0 0) (someB c.here c.slots.length) (allB c.here c.slots.length) (someB c.held c.slots.length)

end Go.Proofs.YtpmpndfinghlkaaDoor
