/- What the program's calls do: what the laws lean on. -/
import Derived.Test.YtpbokncojemihaaRefRight
import Derived.Test.YtpbokncojemihaaMethB
namespace Go.Proofs.Ytpbokncojemihaa
open Go.RowKit

structure Meth : Prop extends MethB where
  right : ∀ (p : Option Addr) (c : Nat) (l : Row) (w : World), Rd w p c l → l.length ≤ 1100000 → Calls Try.prog 12 #[.slice p l.length c] w fun e w' => ∃ V : Bool, e = .returned (.bool V) ∧ Hid ((V = true ↔ Ris l) ∧ Below w.heap.size w w')
  with_ : ∀ (p : Option Addr) (c : Nat) (l : Row) (s : Nm) (w : World), Rd w p c l → l.length ≤ 1100000 → Ris l → TellsOwn 18 #[.slice p l.length c, txt s] w (ins s l)
  without : ∀ (p : Option Addr) (c : Nat) (l : Row) (s : Nm) (w : World), Rd w p c l → l.length ≤ 1100000 → Ris l → TellsOwn 20 #[.slice p l.length c, txt s] w (del s l)
  inside : ∀ (p : Option Addr) (c : Nat) (a : Row) (p' : Option Addr) (c' : Nat) (b : Row) (w : World), Rd w p c a → Rd w p' c' b → a.length ≤ 1100000 → b.length ≤ 1100000 → Ris a → Ris b → Calls Try.prog 27 #[.slice p a.length c, .slice p' b.length c'] w fun e w' => ∃ V : Bool, e = .returned (.bool V) ∧ Hid ((V = true ↔ ∀ x ∈ a, x ∈ b) ∧ Below w.heap.size w w')
/-- of any rows -/
structure MethAny : Prop where
  has : ∀ (p : Option Addr) (c : Nat) (l : Row) (s : Nm) (w : World), Rd w p c l → l.length ≤ 1100000 → Ends 16 #[.slice p l.length c, txt s] w
  with_ : ∀ (p : Option Addr) (c : Nat) (l : Row) (s : Nm) (w : World), Rd w p c l → l.length ≤ 1100000 → Ends 18 #[.slice p l.length c, txt s] w
  without : ∀ (p : Option Addr) (c : Nat) (l : Row) (s : Nm) (w : World), Rd w p c l → l.length ≤ 1100000 → Ends 20 #[.slice p l.length c, txt s] w
  union : ∀ (p : Option Addr) (c : Nat) (a : Row) (p' : Option Addr) (c' : Nat) (b : Row) (w : World), Rd w p c a → Rd w p' c' b → a.length ≤ 1100000 → b.length ≤ 1100000 → Ends 23 #[.slice p a.length c, .slice p' b.length c'] w
  meet : ∀ (p : Option Addr) (c : Nat) (a : Row) (p' : Option Addr) (c' : Nat) (b : Row) (w : World), Rd w p c a → Rd w p' c' b → a.length ≤ 1100000 → b.length ≤ 1100000 → Ends 25 #[.slice p a.length c, .slice p' b.length c'] w
  less : ∀ (p : Option Addr) (c : Nat) (a : Row) (p' : Option Addr) (c' : Nat) (b : Row) (w : World), Rd w p c a → Rd w p' c' b → a.length ≤ 1100000 → b.length ≤ 1100000 → Ends 26 #[.slice p a.length c, .slice p' b.length c'] w
  inside : ∀ (p : Option Addr) (c : Nat) (a : Row) (p' : Option Addr) (c' : Nat) (b : Row) (w : World), Rd w p c a → Rd w p' c' b → a.length ≤ 1100000 → b.length ≤ 1100000 → Ends 27 #[.slice p a.length c, .slice p' b.length c'] w

end Go.Proofs.Ytpbokncojemihaa
