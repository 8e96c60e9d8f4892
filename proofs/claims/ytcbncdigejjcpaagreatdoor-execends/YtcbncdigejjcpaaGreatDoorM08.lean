/- DcTags. -/
import Derived.Test.YtcbncdigejjcpaaGreatDoorM04
import Derived.Test.YtcbncdigejjcpaaGreatDoorM03
namespace Go.Proofs.YtcbncdigejjcpaaGreatDoor.Dc

inductive Tag where
  | dict
  | tab (e : Bool)
  | room (e : Bool) (i : Nat)
abbrev Tg := Nat → Option Tag
/-- a value's block gets a tag -/
def Tg.give (g : Tg) (u : Value) (t : Tag) : Tg := fun k => if u.ownBlock = some k then some t else g k
theorem Tg.give_own (g : Tg) {u : Value} (t : Tag) {k : Nat} (h : u.ownBlock = some k) : g.give u t k = some t := if_pos h
theorem Tg.give_other (g : Tg) {u : Value} (t : Tag) {k : Nat} (h : u.ownBlock ≠ some k) : g.give u t k = g k := if_neg h
/-- where a name stands, as the program tells it -/
def plcI {α : Type} (n : Nm) (l : Its α) : Int := match plc n l with
  | some k => k
  | none => -1
theorem plcI_some {α : Type} {n : Nm} {l : Its α} {k : Nat} (h : plc n l = some k) : plcI n l = k := by unfold plcI; rw [h]
theorem plcI_none {α : Type} {n : Nm} {l : Its α} (h : plc n l = none) : plcI n l = -1 := by unfold plcI; rw [h]
theorem plc_at {α : Type} {n : Nm} {l : Its α} (i : Nat) (hi : i < l.length) (h : l[i].1 = n) (hl : ∀ j (hj : j < l.length), j < i → l[j].1 ≠ n) : plc n l = some i := by
  unfold plc
  rw [List.findIdx?_eq_some_iff_getElem]
  exact ⟨hi, by simpa using h, fun j hj => by simpa using hl j (by omega) hj⟩
theorem plc_not {α : Type} {n : Nm} {l : Its α} (hl : ∀ j (hj : j < l.length), l[j].1 ≠ n) : plc n l = none := by
  unfold plc
  rw [List.findIdx?_eq_none_iff]
  intro x hx
  obtain ⟨j, hj, rfl⟩ := List.mem_iff_getElem.1 hx
  simpa using hl j hj
theorem plcI_le {α : Type} (n : Nm) (l : Its α) : -1 ≤ plcI n l ∧ plcI n l < l.length + 1 := by
  unfold plcI
  cases h : plc n l with
  | none => simp; omega
  | some k =>
    obtain ⟨_, hk, _⟩ := plc_some h
    simp; omega
theorem ret_int {k : IntKind} {a b : Int} (h : a = b) : Ending.returned (.int k a) = .returned (.int k b) := by rw [h]
end Go.Proofs.YtcbncdigejjcpaaGreatDoor.Dc
