/- The program's dict: Put. -/
import Derived.Test.YtphegggekcjenaaDoorDIPutNot
namespace Go.Proofs.YtphegggekcjenaaDoor.DI
open Go.RowKit

/-- Put -/
theorem put_any {B : Nat} {w : World} {b : Nat} {g : Tg} {nb : Nat} {ev : Value} {D : DM Int} {T : TM Int} (h : Half B w b g g w nb ev D T) (hS : Small 100000 D) (hnm : ∀ x ∈ D.L, x.1.length ≤ 140737488351232) (n : Nm) (v : Int) (hn : n.length ≤ 140737488351232) :
    Calls Tryd.prog 22 #[.pointer (some ⟨b, 0, none⟩), txt n, (.int .i64 v)] w fun e w' => e = .returned (.bool (hasL n D.L)) ∧ Hid (∃ g' nb' ev' T', Half B w' b g' g w nb' ev' (putD D n v) T') := by
  cases hh : hasL n D.L with
  | true => rw [← hh]; exact put_has h hS hnm n v hn hh
  | false => rw [← hh]; exact put_not h hS hnm n v hn hh

end Go.Proofs.YtphegggekcjenaaDoor.DI
