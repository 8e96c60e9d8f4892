/- RefDel, CrcRef, RefRight, VMem, Ref1, Ref2, RefRight10, Body, Body2, DumpB, Dump, SizeT, RefMem, PutP, RefPut, Same10, RefSame, RefOf, RefKeys, KModel, KFacts, KMap, SlotP. -/
import Derived.Test.YtcbncdigejjcpaaGreatDoorM16
import Derived.Test.YtcbncdigejjcpaaGreatDoorM13
import Derived.BigQuiet
import Derived.WalkLawsBesides
import Derived.Lib.AppendStr
import Derived.Deep.RegionLaw
import Derived.Deep.RegionHeld3
import Derived.Deep.DeepCutAuto
import Derived.Test.YtcbncdigejjcpaaGreatDoorM04
import Derived.Maps.OwnSet
import Derived.Lib.CutLaws
import Derived.Lib.SlBytesConst
import Derived.Deep.Draws
import Derived.Test.YtcbncdigejjcpaaGreatDoorM18
import Derived.Test.YtcbncdigejjcpaaGreatDoorM11
namespace Go.Proofs.YtcbncdigejjcpaaGreatDoor
open Go.RowKit

def delR (k : Nm) (R : List E8) : List E8 := R.filter fun x => !(x.key == k)
end Go.Proofs.YtcbncdigejjcpaaGreatDoor

namespace Go.Proofs.YtcbncdigejjcpaaGreatDoor
open Go.RowKit

/-- how much an entry takes -/
noncomputable def tk (x : E8) : Nat := 16 + x.key.length + (dumpS x.m).length
noncomputable def memR (R : List E8) : Nat := (R.map tk).sum
def getR (k : Nm) (R : List E8) : Option E8 := R.find? fun x => x.key == k
end Go.Proofs.YtcbncdigejjcpaaGreatDoor

namespace Go.Proofs.YtcbncdigejjcpaaGreatDoor

def argBad (x : E8) (now : Int) : Prop := 1024 < x.key.length ∨ x.ends < 0 ∨ 1099511627776 < x.ends ∨ (0 < x.ends ∧ x.ends ≤ now)
/-- one entry more is gone through: is the new one put ahead of it? -/
def stepI (x : E8) (s : List E8 × Bool) (y : E8) : List E8 × Bool := if s.2 = false ∧ x.key < y.key then (s.1 ++ [x] ++ [y], true) else (s.1 ++ [y], s.2)
def stI (x : E8) (l : List E8) : List E8 × Bool := l.foldl (stepI x) ([], false)
def insX (x : E8) (l : List E8) : List E8 := if (stI x l).2 = true then (stI x l).1 else (stI x l).1 ++ [x]
open Classical in
/-- what Put answers, and what it leaves -/
noncomputable def putE (R : List E8) (room now : Int) (x : E8) : Int :=
  if argBad x now then 1 else if rightB x.m = false then 100
  else if ((getR x.key R).isSome = false ∧ 4096 ≤ R.length) ∨ (room < ((memR (delR x.key R) + tk x : Nat) : Int) ∧ memR R < memR (delR x.key R) + tk x) then 110 else 0
noncomputable def putR (R : List E8) (room now : Int) (x : E8) : List E8 := if putE R room now x = 0 then insX x (delR x.key R) else R
end Go.Proofs.YtcbncdigejjcpaaGreatDoor

namespace Go.Proofs.YtcbncdigejjcpaaGreatDoor
open Go.RowKit

theorem al_three (w : World) (a b d : Obj) : Below w.heap.size w (((w.alloc a).alloc b).alloc d) ∧ (((w.alloc a).alloc b).alloc d).heap[w.heap.size]? = some a ∧ (((w.alloc a).alloc b).alloc d).heap[w.heap.size + 1]? = some b ∧ (((w.alloc a).alloc b).alloc d).heap[w.heap.size + 2]? = some d ∧ (((w.alloc a).alloc b).alloc d).heap.size = w.heap.size + 3 := by
  have h := al_two w a b
  have hb := below_alloc ((w.alloc a).alloc b) d
  have hn := heap_alloc_new ((w.alloc a).alloc b) d
  rw [h.2.2.2] at hb hn
  exact ⟨h.1.trans (hb.mono (by omega)), (hb.block _ (by omega)).trans h.2.1, (hb.block _ (by omega)).trans h.2.2.1, hn, by simp⟩
end Go.Proofs.YtcbncdigejjcpaaGreatDoor

namespace Go.Proofs.YtcbncdigejjcpaaGreatDoor
open Go.RowKit

/-- what of an entry counts -/
abbrev pr8 (x : E8) : Nm × Vl × Int := (x.key, x.m, x.ends)
end Go.Proofs.YtcbncdigejjcpaaGreatDoor

namespace Go.Proofs.YtcbncdigejjcpaaGreatDoor
open Go.RowKit

namespace Slot
/-- around the first c -/
def cut (c : UInt8) : List UInt8 → List UInt8 × List UInt8 × Bool
  | [] => ([], [], false)
  | b :: l => if b = c then ([], l, true) else (b :: (cut c l).1, (cut c l).2.1, (cut c l).2.2)
theorem cut_hit {c : UInt8} : ∀ {p r : List UInt8}, c ∉ p → cut c (p ++ c :: r) = (p, r, true)
  | [], r, _ => by simp [cut]
  | b :: p, r, h => by
    have hb : ¬ b = c := fun e => h (by simp [e])
    have := cut_hit (c := c) (p := p) (r := r) (fun m => h (List.mem_cons_of_mem _ m))
    simp [cut, hb, this]
theorem cut_miss {c : UInt8} : ∀ {l : List UInt8}, c ∉ l → cut c l = (l, [], false)
  | [], _ => rfl
  | b :: l, h => by
    have hb : ¬ b = c := fun e => h (by simp [e])
    have := cut_miss (c := c) (l := l) (fun m => h (List.mem_cons_of_mem _ m))
    simp [cut, hb, this]
theorem cut_cases (c : UInt8) : ∀ l : List UInt8, (∃ p r, l = p ++ c :: r ∧ c ∉ p) ∨ c ∉ l
  | [] => Or.inr (by simp)
  | b :: l => by
    by_cases hb : b = c
    · subst hb; exact Or.inl ⟨[], l, rfl, by simp⟩
    · rcases cut_cases c l with ⟨p, r, rfl, h⟩ | h
      · exact Or.inl ⟨b :: p, r, rfl, by simp [h, Ne.symm hb]⟩
      · exact Or.inr (by simp [h, Ne.symm hb])
/-- what of a key counts -/
def tag (key : List UInt8) : List UInt8 :=
  if (cut 123 key).2.2 = false then key
  else if (cut 125 (cut 123 key).2.1).2.2 = false ∨ (cut 125 (cut 123 key).2.1).1 = [] then key
  else (cut 125 (cut 123 key).2.1).1
theorem tag_plain {key : List UInt8} (h : (123 : UInt8) ∉ key) : tag key = key := by
  unfold tag; rw [cut_miss h]; simp
theorem tag_open {a b : List UInt8} (h : (123 : UInt8) ∉ a) (h2 : (125 : UInt8) ∉ b) : tag (a ++ 123 :: b) = a ++ 123 :: b := by
  unfold tag; rw [cut_hit h]; simp [cut_miss h2]
theorem tag_empty {a r : List UInt8} (h : (123 : UInt8) ∉ a) : tag (a ++ 123 :: 125 :: r) = a ++ 123 :: 125 :: r := by
  unfold tag; rw [cut_hit h]; simp [cut]
theorem tag_in {a t r : List UInt8} (h : (123 : UInt8) ∉ a) (h2 : (125 : UInt8) ∉ t) (h3 : t ≠ []) : tag (a ++ 123 :: (t ++ 125 :: r)) = t := by
  unfold tag; rw [cut_hit h]; simp [cut_hit h2, h3]
theorem tag_length (key : List UInt8) : (tag key).length ≤ key.length := by
  rcases cut_cases 123 key with ⟨a, b, rfl, h⟩ | h
  · rcases cut_cases 125 b with ⟨t, r, rfl, h2⟩ | h2
    · by_cases h3 : t = []
      · subst h3; rw [List.nil_append, tag_empty h]; exact Nat.le_refl _
      · rw [tag_in h h2 h3]; simp; omega
    · rw [tag_open h h2]; exact Nat.le_refl _
  · rw [tag_plain h]; exact Nat.le_refl _

end Slot
open Slot
theorem ret_str {a b : List UInt8} (h : a = b) : Ending.returned (.string ⟨a.toArray⟩) = .returned (.string ⟨b.toArray⟩) := by rw [h]
def slotOf (l : List UInt8) : Nat := sumN (tag l) % 16384
end Go.Proofs.YtcbncdigejjcpaaGreatDoor

namespace Go.Proofs.YtcbncdigejjcpaaGreatDoor

/-- a key, its value, and when it ends -/
abbrev EP := Nm × Vl × Int
noncomputable def tkE (x : EP) : Nat := 16 + x.1.length + (dumpS x.2.1).length
noncomputable def memL (L : List EP) : Nat := (L.map tkE).sum
def delL (k : Nm) (L : List EP) : List EP := L.filter fun x => !(x.1 == k)
def tickL (t : Int) (L : List EP) : List EP := L.filter fun x => x.2.2 == 0 || decide (t < x.2.2)
def getL (k : Nm) (L : List EP) : Option EP := L.find? fun x => x.1 == k
def slotL (n : Int) (L : List EP) : List Nm := (L.filter fun x => (slotOf x.1 : Int) == n).map (·.1)
def keysL (n most : Int) (L : List EP) : List Nm := (slotL n L).take most.toNat
def tickN (now t : Int) : Int := max now (min t 1099511627776)
def argBadP (x : EP) (now : Int) : Prop := 1024 < x.1.length ∨ x.2.2 < 0 ∨ 1099511627776 < x.2.2 ∨ (0 < x.2.2 ∧ x.2.2 ≤ now)
def stepL (x : EP) (s : List EP × Bool) (y : EP) : List EP × Bool := if s.2 = false ∧ x.1 < y.1 then (s.1 ++ [x] ++ [y], true) else (s.1 ++ [y], s.2)
def stL (x : EP) (l : List EP) : List EP × Bool := l.foldl (stepL x) ([], false)
def insL (x : EP) (l : List EP) : List EP := if (stL x l).2 = true then (stL x l).1 else (stL x l).1 ++ [x]
open Classical in
noncomputable def putEL (L : List EP) (room now : Int) (x : EP) : Int :=
  if argBadP x now then 1 else if rightB x.2.1 = false then 100
  else if ((getL x.1 L).isSome = false ∧ 4096 ≤ L.length) ∨ (room < ((memL (delL x.1 L) + tkE x : Nat) : Int) ∧ memL L < memL (delL x.1 L) + tkE x) then 110 else 0
noncomputable def putLL (L : List EP) (room now : Int) (x : EP) : List EP := if putEL L room now x = 0 then insL x (delL x.1 L) else L
/-- how many entries there are behind a Put -/
theorem delL_len (k : Nm) (L : List EP) : (delL k L).length ≤ L.length := List.length_filter_le _ _

end Go.Proofs.YtcbncdigejjcpaaGreatDoor

namespace Go.Proofs.YtcbncdigejjcpaaGreatDoor

/-- rising keys -/
def SrtL (L : List EP) : Prop := L.Pairwise (fun a b => a.1 < b.1)
/-- an entry is put where it belongs -/
def insR (x : EP) : List EP → List EP
  | [] => [x]
  | y :: r => if x.1 < y.1 then x :: y :: r else y :: insR x r
theorem st_done (x : EP) : ∀ (l a : List EP), l.foldl (stepL x) (a, true) = (a ++ l, true)
  | [], a => by simp
  | y :: l, a => by
    rw [List.foldl_cons, show stepL x (a, true) y = (a ++ [y], true) by simp [stepL], st_done x l]
    simp
theorem st_ins (x : EP) : ∀ (l a : List EP), (if (l.foldl (stepL x) (a, false)).2 = true then (l.foldl (stepL x) (a, false)).1 else (l.foldl (stepL x) (a, false)).1 ++ [x]) = a ++ insR x l
  | [], a => by simp [insR]
  | y :: l, a => by
    rw [List.foldl_cons]
    by_cases h : x.1 < y.1
    · rw [show stepL x (a, false) y = (a ++ [x] ++ [y], true) by simp [stepL, h], st_done, if_pos rfl, insR, if_pos h]
      simp
    · rw [show stepL x (a, false) y = (a ++ [y], false) by simp [stepL, h], st_ins x l, insR, if_neg h]
      simp
theorem insL_eq (x : EP) (l : List EP) : insL x l = insR x l := by
  have := st_ins x l []
  rw [List.nil_append] at this
  unfold insL stL
  by_cases h : (l.foldl (stepL x) ([], false)).2 = true
  · rw [if_pos h] at this ⊢; exact this
  · rw [if_neg h] at this ⊢; exact this
theorem insR_perm (x : EP) : ∀ l, (insR x l).Perm (x :: l)
  | [] => List.Perm.refl _
  | y :: r => by
    unfold insR
    split
    · exact List.Perm.refl _
    · exact ((insR_perm x r).cons y).trans (List.Perm.swap x y r)
theorem insR_mem {x y : EP} {l : List EP} : y ∈ insR x l ↔ y = x ∨ y ∈ l := by rw [(insR_perm x l).mem_iff, List.mem_cons]
theorem insR_len (x : EP) (l : List EP) : (insR x l).length = l.length + 1 := by rw [(insR_perm x l).length_eq]; rfl
theorem insR_srt {x : EP} : ∀ {l : List EP}, SrtL l → (∀ y ∈ l, y.1 ≠ x.1) → SrtL (insR x l)
  | [], _, _ => List.pairwise_singleton _ _
  | y :: r, h, hn => by
    obtain ⟨h1, h2⟩ := List.pairwise_cons.1 h
    unfold insR
    split
    · rename_i k
      exact List.pairwise_cons.2 ⟨fun z hz => by
        rcases List.mem_cons.1 hz with rfl | hz
        · exact k
        · exact nm_lt_trans k (h1 z hz), h⟩
    · rename_i k
      refine List.pairwise_cons.2 ⟨fun z hz => ?_, insR_srt h2 (fun z hz => hn z (List.mem_cons_of_mem _ hz))⟩
      rcases insR_mem.1 hz with rfl | hz
      · rcases nm_lt_or y.1 z.1 with h | h | h
        · exact h
        · exact absurd h (hn y List.mem_cons_self)
        · exact absurd h k
      · exact h1 z hz
theorem SrtL.del {L : List EP} (h : SrtL L) (k : Nm) : SrtL (delL k L) := h.filter _
theorem delL_mem {k : Nm} {L : List EP} {x : EP} : x ∈ delL k L ↔ x ∈ L ∧ x.1 ≠ k := by simp [delL]
theorem SrtL.ne {L : List EP} (h : SrtL L) : ∀ {x y : EP}, x ∈ L → y ∈ L → x.1 = y.1 → x = y := by
  induction L with
  | nil => intro x y hx; cases hx
  | cons z r ih =>
    intro x y hx hy e
    obtain ⟨h1, h2⟩ := List.pairwise_cons.1 h
    rcases List.mem_cons.1 hx with ex | hx1
    · rcases List.mem_cons.1 hy with ey | hy1
      · rw [ex, ey]
      · exact absurd (h1 y hy1) (by rw [← ex, e]; exact nm_lt_irrefl _)
    · rcases List.mem_cons.1 hy with ey | hy1
      · exact absurd (h1 x hx1) (by rw [← ey, e]; exact nm_lt_irrefl _)
      · exact ih h2 hx1 hy1 e
theorem getL_none {k : Nm} {L : List EP} : getL k L = none ↔ ∀ x ∈ L, x.1 ≠ k := by simp [getL]
theorem getL_some {k : Nm} {L : List EP} {x : EP} (h : getL k L = some x) : x ∈ L ∧ x.1 = k := by
  unfold getL at h
  exact ⟨List.mem_of_find?_eq_some h, by simpa using List.find?_some h⟩
theorem getL_of {k : Nm} {L : List EP} (h : SrtL L) {x : EP} (hx : x ∈ L) (e : x.1 = k) : getL k L = some x := by
  cases hg : getL k L with
  | none => exact absurd e (getL_none.1 hg x hx)
  | some y =>
    obtain ⟨h1, h2⟩ := getL_some hg
    rw [h.ne h1 hx (by rw [h2, e])]
theorem delL_none {k : Nm} {L : List EP} (h : getL k L = none) : delL k L = L := by
  unfold delL
  rw [List.filter_eq_self]
  intro x hx
  have := getL_none.1 h x hx
  simpa using this
theorem delL_app (k : Nm) (a b : List EP) : delL k (a ++ b) = delL k a ++ delL k b := by simp [delL]
theorem delL_not {k : Nm} {L : List EP} (h : ∀ x ∈ L, x.1 ≠ k) : delL k L = L := delL_none (getL_none.2 h)
/-- where an entry stands, what is ahead and behind -/
theorem SrtL.split {L : List EP} (h : SrtL L) {k : Nm} {x : EP} (hg : getL k L = some x) : ∃ a b, L = a ++ x :: b ∧ delL k L = a ++ b := by
  obtain ⟨hm, e⟩ := getL_some hg
  obtain ⟨a, b, rfl⟩ := List.append_of_mem hm
  refine ⟨a, b, rfl, ?_⟩
  obtain ⟨ha, hxb, hab⟩ := List.pairwise_append.1 h
  obtain ⟨hx, hb⟩ := List.pairwise_cons.1 hxb
  rw [delL_app, delL_not (L := a) (fun y hy e2 => nm_lt_irrefl k (by have := hab y hy x List.mem_cons_self; rw [e2, e] at this; exact this))]
  congr 1
  unfold delL
  rw [List.filter_cons_of_neg (by simp [e])]
  exact delL_not (fun y hy e2 => nm_lt_irrefl k (by have := hx y hy; rw [e2, e] at this; exact this))
theorem delL_len_some {L : List EP} (h : SrtL L) {k : Nm} {x : EP} (hg : getL k L = some x) : (delL k L).length + 1 = L.length := by
  obtain ⟨a, b, h1, h2⟩ := h.split hg
  rw [h2, h1]
  simp
  omega
theorem memL_app (a b : List EP) : memL (a ++ b) = memL a + memL b := by simp [memL]
theorem memL_cons (x : EP) (b : List EP) : memL (x :: b) = tkE x + memL b := by simp [memL]
theorem memL_del {L : List EP} (h : SrtL L) {k : Nm} {x : EP} (hg : getL k L = some x) : memL (delL k L) + tkE x = memL L := by
  obtain ⟨a, b, h1, h2⟩ := h.split hg
  rw [h2, h1, memL_app, memL_app, memL_cons]
  omega
theorem memL_ins (x : EP) (l : List EP) : memL (insR x l) = tkE x + memL l := by
  unfold memL
  rw [((insR_perm x l).map tkE).sum_nat]
  simp
/-- the keys of a slot rise -/
theorem slotL_ris {L : List EP} (h : SrtL L) (n : Int) : Ris (slotL n L) := by
  unfold slotL Ris
  rw [List.pairwise_map]
  exact h.filter _
theorem slotL_mem {L : List EP} {n : Int} {k : Nm} : k ∈ slotL n L ↔ (∃ x ∈ L, x.1 = k) ∧ (slotOf k : Int) = n := by
  simp only [slotL, List.mem_map, List.mem_filter, beq_iff_eq]
  constructor
  · rintro ⟨x, ⟨h1, h2⟩, rfl⟩
    exact ⟨⟨x, h1, rfl⟩, h2⟩
  · rintro ⟨⟨x, h1, rfl⟩, h2⟩
    exact ⟨x, ⟨h1, h2⟩, rfl⟩
/-- an entry in another one's place -/
theorem slotL_put_has {L : List EP} (h : SrtL L) {x y : EP} (hg : getL x.1 L = some y) (n : Int) : slotL n (insR x (delL x.1 L)) = slotL n L := by
  refine (slotL_ris (insR_srt (h.del _) (fun z hz => (delL_mem.1 hz).2)) n).ext (slotL_ris h n) fun k => ?_
  rw [slotL_mem, slotL_mem]
  obtain ⟨hy, hye⟩ := getL_some hg
  refine and_congr_left fun _ => ⟨?_, ?_⟩
  · rintro ⟨z, hz, rfl⟩
    rcases insR_mem.1 hz with rfl | hz
    · exact ⟨y, hy, hye⟩
    · exact ⟨z, (delL_mem.1 hz).1, rfl⟩
  · rintro ⟨z, hz, rfl⟩
    by_cases e : z.1 = x.1
    · exact ⟨x, insR_mem.2 (.inl rfl), e.symm⟩
    · exact ⟨z, insR_mem.2 (.inr (delL_mem.2 ⟨hz, e⟩)), rfl⟩
theorem slotL_put_other {L : List EP} (h : SrtL L) {x : EP} (hn : getL x.1 L = none) {n : Int} (hs : (slotOf x.1 : Int) ≠ n) : slotL n (insR x (delL x.1 L)) = slotL n L := by
  rw [delL_none hn]
  refine (slotL_ris (insR_srt h (getL_none.1 hn)) n).ext (slotL_ris h n) fun k => ?_
  rw [slotL_mem, slotL_mem]
  constructor
  · rintro ⟨⟨z, hz, rfl⟩, hk⟩
    rcases insR_mem.1 hz with rfl | hz
    · exact absurd hk hs
    · exact ⟨⟨z, hz, rfl⟩, hk⟩
  · rintro ⟨⟨z, hz, rfl⟩, hk⟩
    exact ⟨⟨z, insR_mem.2 (.inr hz), rfl⟩, hk⟩
theorem slotL_put_new {L : List EP} (h : SrtL L) {x : EP} (hn : getL x.1 L = none) : slotL (slotOf x.1) (insR x (delL x.1 L)) = insAll (slotL (slotOf x.1) L) [x.1] := by
  rw [delL_none hn]
  refine (slotL_ris (insR_srt h (getL_none.1 hn)) _).ext (Ris.insAll [x.1] (slotL_ris h _)) fun k => ?_
  rw [slotL_mem, mem_insAll, slotL_mem, List.mem_singleton]
  constructor
  · rintro ⟨⟨z, hz, rfl⟩, hk⟩
    rcases insR_mem.1 hz with rfl | hz
    · exact .inr rfl
    · exact .inl ⟨⟨z, hz, rfl⟩, hk⟩
  · rintro (⟨⟨z, hz, rfl⟩, hk⟩ | rfl)
    · exact ⟨⟨z, insR_mem.2 (.inr hz), rfl⟩, hk⟩
    · exact ⟨⟨x, insR_mem.2 (.inl rfl), rfl⟩, rfl⟩
theorem slotL_del_other {L : List EP} {k : Nm} {n : Int} (hs : (slotOf k : Int) ≠ n) : slotL n (delL k L) = slotL n L := by
  unfold slotL delL
  rw [List.filter_filter]
  congr 1
  apply List.filter_congr
  intro x _
  by_cases e : x.1 = k
  · simp [e, hs]
  · simp [e]
theorem slotL_del {L : List EP} (h : SrtL L) (k : Nm) : slotL (slotOf k) (delL k L) = less (slotL (slotOf k) L) [k] := by
  refine (slotL_ris (h.del k) _).ext ((slotL_ris h _).less [k]) fun m => ?_
  rw [slotL_mem, mem_less, slotL_mem, List.mem_singleton]
  constructor
  · rintro ⟨⟨z, hz, rfl⟩, hk⟩
    obtain ⟨h1, h2⟩ := delL_mem.1 hz
    exact ⟨⟨⟨z, h1, rfl⟩, hk⟩, h2⟩
  · rintro ⟨⟨⟨z, hz, rfl⟩, hk⟩, h2⟩
    exact ⟨⟨z, delL_mem.2 ⟨hz, h2⟩, rfl⟩, hk⟩
/-- a dict of entries as a list of them -/
abbrev ofD (l : Dc.Its E8) : List EP := l.map (fun p => pr8 p.2)
def KeyD (l : Dc.Its E8) : Prop := ∀ p ∈ l, p.2.key = p.1
theorem ofD_srt {l : Dc.Its E8} (h : Dc.Srt l) (hk : KeyD l) : SrtL (ofD l) := by
  unfold SrtL ofD
  rw [List.pairwise_map]
  refine h.imp_of_mem ?_
  intro a b ha hb hab
  show a.2.key < b.2.key
  rw [hk a ha, hk b hb]
  exact hab
theorem ofD_get : ∀ {l : Dc.Its E8}, KeyD l → ∀ k, (Dc.getL k l).map pr8 = getL k (ofD l)
  | [], _, k => rfl
  | p :: l, h, k => by
    have hp : p.2.key = p.1 := h p List.mem_cons_self
    have ih := ofD_get (l := l) (fun q hq => h q (List.mem_cons_of_mem _ hq)) k
    unfold Dc.getL getL ofD at *
    by_cases e : p.1 = k
    · rw [List.find?_cons_of_pos (by simpa using e), List.map_cons, List.find?_cons_of_pos (by simp [hp, e])]
      rfl
    · rw [List.find?_cons_of_neg (by simpa using e), List.map_cons, List.find?_cons_of_neg (by simp [hp, e])]
      exact ih
theorem ofD_del : ∀ {l : Dc.Its E8}, KeyD l → ∀ k, ofD (Dc.delL k l) = delL k (ofD l)
  | [], _, k => rfl
  | p :: l, h, k => by
    have hp : p.2.key = p.1 := h p List.mem_cons_self
    have ih := ofD_del (l := l) (fun q hq => h q (List.mem_cons_of_mem _ hq)) k
    unfold Dc.delL delL ofD at *
    by_cases e : p.1 = k
    · rw [List.filter_cons_of_neg (by simp [e]), List.map_cons, List.filter_cons_of_neg (by simp [hp, e])]
      exact ih
    · rw [List.filter_cons_of_pos (by simp [e]), List.map_cons, List.map_cons, List.filter_cons_of_pos (by simp [hp, e]), ih]
theorem ofD_put {x : E8} : ∀ {l : Dc.Its E8}, KeyD l → ofD (Dc.put1 x.key x false l) = insR (pr8 x) (delL x.key (ofD l))
  | [], _ => rfl
  | p :: l, h => by
    have hp : p.2.key = p.1 := h p List.mem_cons_self
    have hl : KeyD l := fun q hq => h q (List.mem_cons_of_mem _ hq)
    have ih := ofD_put (x := x) hl
    by_cases e : p.1 = x.key
    · rw [Dc.put1, if_pos e, ih]
      congr 1
      simp only [ofD, List.map_cons, delL]
      rw [List.filter_cons_of_neg (by simp [hp, e])]
    · have hd : delL x.key (ofD (p :: l)) = pr8 p.2 :: delL x.key (ofD l) := by
        simp only [ofD, List.map_cons, delL]
        rw [List.filter_cons_of_pos (by simp [hp, e])]
      rw [Dc.put1, if_neg e, hd]
      by_cases k : x.key < p.1
      · rw [if_pos ⟨rfl, k⟩, Dc.put1_done, insR, if_pos (show x.key < p.2.key by rw [hp]; exact k)]
        show pr8 x :: pr8 p.2 :: ofD (Dc.delL x.key l) = _
        rw [ofD_del hl x.key]
      · rw [if_neg (fun e => k e.2), insR, if_neg (show ¬ x.key < p.2.key by rw [hp]; exact k)]
        show pr8 p.2 :: ofD (Dc.put1 x.key x false l) = _
        rw [ih]
theorem keyD_put {x : E8} {l : Dc.Its E8} (h : KeyD l) : KeyD (Dc.put1 x.key x false l) := fun p hp => by
  rcases (Dc.put1_mem x.key x l p).1 hp with rfl | ⟨hp, _⟩
  · rfl
  · exact h p hp
theorem keyD_del {l : Dc.Its E8} (h : KeyD l) (k : Nm) : KeyD (Dc.delL k l) := fun p hp => h p (Dc.delL_mem.1 hp).1
theorem ofD_names {l : Dc.Its E8} (h : KeyD l) : l.map (·.1) = (ofD l).map (·.1) := by
  unfold ofD
  rw [List.map_map]
  apply List.map_congr_left
  intro p hp
  exact (h p hp).symm
/-- what a right value may be -/
theorem fits_len {l : List Nm} (h : Fits l) : l.length ≤ 256 ∧ ∀ x ∈ l, x.length ≤ 1024 := ⟨h.2.2, h.1⟩
structure Lean8 (m : Vl) : Prop where
  text : m.text.length ≤ 4096
  pairs : m.pairs.length ≤ 256
  names : ∀ x ∈ m.pairs.map (·.1), x.length ≤ 1024
  values : ∀ x ∈ m.pairs.map (·.2), x.length ≤ 1024
  items : m.items.length ≤ 256
  texts : ∀ x ∈ m.items, x.length ≤ 1024
  pt : -1048576 ≤ m.px ∧ m.px ≤ 1048576 ∧ -1048576 ≤ m.py ∧ m.py ≤ 1048576
theorem rt_small {m : Vl} (h : RtV m) : Lean8 m := by
  have hp : m.pairs.length ≤ 256 ∧ (∀ x ∈ m.pairs.map (·.1), x.length ≤ 1024) ∧ ∀ x ∈ m.pairs.map (·.2), x.length ≤ 1024 := by
    by_cases e : m.kind = 2
    · obtain ⟨h1, _, h2⟩ := h.k2 e
      have := h1.2.2
      rw [List.length_map] at this
      exact ⟨this, h1.1, h2.1⟩
    · rw [h.pairs e]; simp
  have hi : m.items.length ≤ 256 ∧ ∀ x ∈ m.items, x.length ≤ 1024 := by
    by_cases e : m.kind = 3
    · exact fits_len (h.k3 e)
    · by_cases e4 : m.kind = 4
      · exact fits_len (h.k4 e4).1
      · rw [h.items e e4]; simp
  have ht : m.text.length ≤ 4096 := by
    by_cases e : m.kind = 1
    · exact h.k1 e
    · rw [h.text e]; simp
  have hx : -1048576 ≤ m.px ∧ m.px ≤ 1048576 ∧ -1048576 ≤ m.py ∧ m.py ≤ 1048576 := by
    by_cases e : m.kind = 5
    · exact h.k5 e
    · rw [(h.point e).1, (h.point e).2]; omega
  exact ⟨ht, hp.1, hp.2.1, hp.2.2, hi.1, hi.2, hx⟩
theorem rt_came {m : Vl} (h : RtV m) : Came m := by
  have h8 := rt_small h
  have hk := h.k
  exact ⟨by have := h8.pairs; omega, by have := h8.items; omega, by have := h8.text; omega, fun x hx => by have := h8.names x hx; omega, fun x hx => by have := h8.values x hx; omega, fun x hx => by have := h8.texts x hx; omega, by omega, by have := h8.pt; omega, by have := h8.pt; omega⟩
end Go.Proofs.YtcbncdigejjcpaaGreatDoor

namespace Go.Proofs.YtcbncdigejjcpaaGreatDoor
open Go.RowKit Go.Maps Go.ChangeMaps Go.MapKept

abbrev In64 (n : Int) : Prop := -9223372036854775808 ≤ n ∧ n ≤ 9223372036854775807
theorem keyedI : Keyed Tryz.prog 3 := int_keyed Tryz.underlying3
theorem keyI {n : Int} (h : In64 n) : keyOf Tryz.prog 3 (.int .i64 n) = some (.int .i64 n) := keyOf_int_mk Tryz.underlying3 (by simp [Lit.wf]; exact h)
/-- a row that may be read; where it has texts, it lies in blocks of P -/
def Rw (P : Nat → Prop) (w : World) (v : Value) (l : Row) : Prop := ∃ p c, v = .slice p l.length c ∧ Rd w p c l ∧ (l ≠ [] → ∀ a, p = some a → P a.block)
theorem Rw.keep {P Q : Nat → Prop} {w w' : World} {v : Value} {l : Row} (h : Rw P w v l) (k : Keep P w w') (hq : ∀ i, P i → Q i) : Rw Q w' v l := by
  obtain ⟨p, c, h1, h2, h3⟩ := h
  exact ⟨p, c, h1, ⟨strs_keep h2.strs h3 k, h2.nil, h2.cap⟩, fun hne a ha => hq _ (h3 hne a ha)⟩
/-- block mb is a map; what it has at n is the row f n -/
structure MapAt (P : Nat → Prop) (w : World) (es : Array MapEntry) (f : Int → Row) : Prop where
  keys : ∀ e ∈ es.toList, ∃ n, In64 n ∧ e.key = .int .i64 n ∧ Rw P w e.val (f n)
  has : ∀ n, f n ≠ [] → ∃ e ∈ es.toList, e.key = .int .i64 n
  uniq : es.toList.Pairwise (fun a b => a.key ≠ b.key)
def MapIs (P : Nat → Prop) (w : World) (mb : Nat) (f : Int → Row) : Prop := ∃ es clk, w.heap[mb]? = some (.map es clk) ∧ MapAt P w es f
theorem MapIs.keep {P Q : Nat → Prop} {w w' : World} {mb : Nat} {f : Int → Row} (h : MapIs P w mb f) (k : Keep P w w') (hq : ∀ i, P i → Q i) (hm : w'.heap[mb]? = w.heap[mb]?) : MapIs Q w' mb f := by
  obtain ⟨es, clk, h1, h2⟩ := h
  exact ⟨es, clk, hm.trans h1, fun e he => (h2.keys e he).imp fun n hn => ⟨hn.1, hn.2.1, hn.2.2.keep k hq⟩, h2.has, h2.uniq⟩
theorem MapIs.lt {P : Nat → Prop} {w : World} {mb : Nat} {f : Int → Row} (h : MapIs P w mb f) : mb < w.heap.size := by
  obtain ⟨es, clk, h1, _⟩ := h
  exact (Array.getElem?_eq_some_iff.1 h1).1
def updF (f : Int → Row) (n : Int) (r : Row) : Int → Row := fun m => if m = n then r else f m
theorem updF_same (f : Int → Row) (n : Int) (r : Row) : updF f n r n = r := if_pos rfl
theorem updF_other (f : Int → Row) (n : Int) (r : Row) {m : Int} (h : m ≠ n) : updF f n r m = f m := if_neg h
/-- nothing but the map's block has turned -/
structure OnlyB (mb : Nat) (w w' : World) : Prop where
  os : w'.os = w.os
  tape : w'.tape = w.tape
  output : w'.output = w.output
  size : w'.heap.size = w.heap.size
  block : ∀ k, k ≠ mb → w'.heap[k]? = w.heap[k]?
theorem OnlyB.keep {mb : Nat} {w w' : World} (h : OnlyB mb w w') {P : Nat → Prop} (hp : ¬ P mb) : Keep P w w' := ⟨h.os, h.tape, h.output, Nat.le_of_eq h.size.symm, fun k _ hk => h.block k (fun e => hp (e ▸ hk))⟩
theorem onlyB_set {w : World} {mb : Nat} {o : Obj} {es : Array MapEntry} {clk : Nat} (hb : w.heap[mb]? = some (.map es clk)) : OnlyB mb w (setBlock w mb o) :=
  ⟨rfl, rfl, rfl, by simp [setBlock], fun k hk => heap_setBlock_other hb _ (fun e => hk e)⟩
theorem int_inj {a b : Int} (h : (Value.int .i64 a) = .int .i64 b) : a = b := by injection h
/-- the same, in every world in which the map is as it is -/
theorem MapIs.look2 {P : Nat → Prop} {w : World} {mb : Nat} {f : Int → Row} (h : MapIs P w mb f) {n : Int} (hn : In64 n) :
    ∃ p c, Rd w p c (f n) ∧ (f n ≠ [] → ∀ a, p = some a → P a.block) ∧ ∀ W : World, W.heap[mb]? = w.heap[mb]? → (Instr.lookup 64 (.map (some mb)) (.int .i64 n) false).run Tryz.prog W = .ok (.slice p (f n).length c) W := by
  obtain ⟨es, clk, hb, hm⟩ := h
  have hks : ∀ e ∈ es.toList, ∃ l, keyOf Tryz.prog 3 e.key = some l := fun e he => by
    obtain ⟨m, h1, h2, _⟩ := hm.keys e he
    exact ⟨_, by rw [h2]; exact keyI h1⟩
  by_cases hex : ∃ e ∈ es.toList, e.key = .int .i64 n
  · obtain ⟨e, he, hk⟩ := hex
    obtain ⟨m, _, hk2, p, c, hv, hr, hp⟩ := hm.keys e he
    rw [hk] at hk2
    have := int_inj hk2
    subst this
    refine ⟨p, c, hr, hp, fun W hW => ?_⟩
    have hbW := hW.trans hb
    rcases keyedI.find W (keyI hn) es.toList hks with ⟨h1, h2⟩ | ⟨j, e1, h1, h2, h3⟩
    · exact absurd hk (h2 e he)
    · have e2 : e1 = e := by
        obtain ⟨i, hi, hie⟩ := List.getElem_of_mem he
        obtain ⟨hj, hje⟩ := List.getElem?_eq_some_iff.1 h2
        by_cases hij : i = j
        · subst hij; rw [← hie, ← hje]
        · rcases Nat.lt_or_gt_of_ne hij with h | h
          · exact absurd (by rw [hie, hje, hk, h3]) (List.pairwise_iff_getElem.1 hm.uniq i j hi hj h)
          · exact absurd (by rw [hie, hje, hk, h3]) (List.pairwise_iff_getElem.1 hm.uniq j i hj hi h)
      rw [← hv, ← e2]
      simp [Instr.lookup, run_underlying Tryz.underlying64, MapKept.run_getObj_map hbW, keyedI.check W _ (keyI hn), h1, Result.andThen]
  · have hnone : ∀ e ∈ es.toList, e.key ≠ .int .i64 n := fun e he hk => hex ⟨e, he, hk⟩
    have hf : f n = [] := by
      cases hf : f n with
      | nil => rfl
      | cons x r =>
        obtain ⟨e, he, hk⟩ := hm.has n (by rw [hf]; simp)
        exact absurd hk (hnone e he)
    rw [hf]
    refine ⟨none, 0, Rd.nilRow w, fun h => absurd rfl h, fun W hW => ?_⟩
    have hbW := hW.trans hb
    rcases keyedI.find W (keyI hn) es.toList hks with ⟨h1, h2⟩ | ⟨j, e1, h1, h2, h3⟩
    · simp [Instr.lookup, run_underlying Tryz.underlying64, MapKept.run_getObj_map hbW, keyedI.check W _ (keyI hn), h1, Result.andThen]
    · exact absurd h3 (hnone e1 (List.mem_of_getElem? h2))
theorem MapIs.store {P : Nat → Prop} {w : World} {mb : Nat} {f : Int → Row} (h : MapIs P w mb f) (hP : ¬ P mb) {n : Int} (hn : In64 n) (v : Value) (r : Row) (hv : Rw P w v r) :
    ∃ w', (Instr.mapUpdate 64 (.map (some mb)) (.int .i64 n) v).run Tryz.prog w = .ok () w' ∧ MapIs P w' mb (updF f n r) ∧ OnlyB mb w w' := by
  obtain ⟨es, clk, hb, hm⟩ := h
  rcases keyedI.find w (keyI hn) es.toList (fun e he => by
    obtain ⟨m, h1, h2, _⟩ := hm.keys e he
    exact ⟨_, by rw [h2]; exact keyI h1⟩) with ⟨h1, h2⟩ | ⟨j, e0, h1, h2, h3⟩
  · have hO : OnlyB mb w (setBlock w mb (.map (es.push ⟨.int .i64 n, v, clk⟩) (clk + 1))) := onlyB_set hb
    refine ⟨_, by simp [Instr.mapUpdate, run_underlying Tryz.underlying64, MapKept.run_getObj_map hb, keyedI.check w false (keyI hn), h1, MapKept.run_setObj_map _ hb, Result.andThen]; exact rfl, ⟨_, _, heap_setBlock_same hb _, fun e he => ?_, fun m hm2 => ?_, ?_⟩, hO⟩
    · rw [Array.toList_push] at he
      rcases List.mem_append.1 he with he | he
      · obtain ⟨m, k1, k2, k3⟩ := hm.keys e he
        have : m ≠ n := fun e2 => h2 e he (by rw [k2, e2])
        exact ⟨m, k1, k2, by rw [updF_other _ _ _ this]; exact k3.keep (hO.keep hP) (fun _ h => h)⟩
      · rw [List.mem_singleton.1 he]
        exact ⟨n, hn, rfl, by rw [updF_same]; exact hv.keep (hO.keep hP) (fun _ h => h)⟩
    · by_cases e : m = n
      · exact ⟨⟨.int .i64 n, v, clk⟩, by simp, by rw [e]⟩
      · rw [updF_other _ _ _ e] at hm2
        obtain ⟨x, hx, hk⟩ := hm.has m hm2
        exact ⟨x, by rw [Array.toList_push]; exact List.mem_append_left _ hx, hk⟩
    · rw [Array.toList_push, List.pairwise_append]
      exact ⟨hm.uniq, List.pairwise_singleton _ _, fun a ha b hb2 => by rw [List.mem_singleton.1 hb2]; exact h2 a ha⟩
  · have hj : es[j]? = some e0 := by simpa using h2
    have hO : OnlyB mb w (setBlock w mb (.map (es.modify j (fun e' => { e' with key := .int .i64 n, val := v })) clk)) := onlyB_set hb
    have hlist : (es.modify j (fun e' => { e' with key := .int .i64 n, val := v })).toList = es.toList.set j { e0 with key := .int .i64 n, val := v } := by rw [Array.toList_modify, modify_eq_set _ _ _ _ h2]
    have hjl : j < es.toList.length := (List.getElem?_eq_some_iff.1 h2).1
    have hje : es.toList[j] = e0 := (List.getElem?_eq_some_iff.1 h2).2
    have huq : ∀ i (hi : i < es.toList.length), i ≠ j → (es.toList[i]).key ≠ .int .i64 n := fun i hi hij e => by
      rcases Nat.lt_or_gt_of_ne hij with h | h
      · exact List.pairwise_iff_getElem.1 hm.uniq i j hi hjl h (by rw [e, hje, h3])
      · exact List.pairwise_iff_getElem.1 hm.uniq j i hjl hi h (by rw [e, hje, h3])
    refine ⟨_, by simp [Instr.mapUpdate, run_underlying Tryz.underlying64, MapKept.run_getObj_map hb, keyedI.check w false (keyI hn), h1, hj, h3, keyedI.stays w (keyI hn), MapKept.run_setObj_map _ hb, Result.andThen]; exact rfl, ⟨_, _, heap_setBlock_same hb _, fun e he => ?_, fun m hm2 => ?_, ?_⟩, hO⟩
    · rw [hlist] at he
      obtain ⟨i, hi, ex⟩ := List.getElem_of_mem he
      rw [List.getElem_set] at ex
      split at ex
      · rw [← ex]
        exact ⟨n, hn, rfl, by rw [updF_same]; exact hv.keep (hO.keep hP) (fun _ h => h)⟩
      · rename_i hne
        have hi' : i < es.toList.length := by simpa using hi
        obtain ⟨m, k1, k2, k3⟩ := hm.keys e (ex ▸ List.getElem_mem hi')
        have : m ≠ n := fun e2 => huq i hi' (fun e3 => hne e3.symm) (by rw [ex, k2, e2])
        exact ⟨m, k1, k2, by rw [updF_other _ _ _ this]; exact k3.keep (hO.keep hP) (fun _ h => h)⟩
    · rw [hlist]
      by_cases e : m = n
      · exact ⟨{ e0 with key := .int .i64 n, val := v }, List.mem_iff_getElem.2 ⟨j, by simpa using hjl, by simp⟩, by rw [e]⟩
      · rw [updF_other _ _ _ e] at hm2
        obtain ⟨x, hx, hk⟩ := hm.has m hm2
        obtain ⟨i, hi, ex⟩ := List.getElem_of_mem hx
        have hij : j ≠ i := fun e2 => by
          subst e2
          rw [← ex, hje, h3] at hk
          exact e (int_inj hk).symm
        exact ⟨x, List.mem_iff_getElem.2 ⟨i, by simpa using hi, by rw [List.getElem_set_ne hij]; exact ex⟩, hk⟩
    · rw [hlist, List.pairwise_iff_getElem]
      intro a b ha hb2 hab
      rw [List.length_set] at ha hb2
      rw [List.getElem_set, List.getElem_set]
      split
      · rename_i e
        rw [if_neg (by omega)]
        exact fun e2 => huq b hb2 (by omega) e2.symm
      · split
        · exact huq a ha (by omega)
        · exact List.pairwise_iff_getElem.1 hm.uniq a b ha hb2 hab
theorem MapIs.drop {P : Nat → Prop} {w : World} {mb : Nat} {f : Int → Row} (h : MapIs P w mb f) (hP : ¬ P mb) {n : Int} (hn : In64 n) (ty : TypeId) :
    ∃ w', (Builtin.delete_ #[64, 3] ty #[.map (some mb), .int .i64 n]).run Tryz.prog w = .ok (.tuple #[]) w' ∧ MapIs P w' mb (updF f n []) ∧ OnlyB mb w w' := by
  obtain ⟨es, clk, hb, hm⟩ := h
  rcases keyedI.find w (keyI hn) es.toList (fun e he => by
    obtain ⟨m, h1, h2, _⟩ := hm.keys e he
    exact ⟨_, by rw [h2]; exact keyI h1⟩) with ⟨h1, h2⟩ | ⟨j, e0, h1, h2, h3⟩
  · have hO : OnlyB mb w (setBlock w mb (.map es clk)) := onlyB_set hb
    refine ⟨_, by simp [Builtin.delete_, run_underlying Tryz.underlying64, MapKept.run_getObj_map hb, keyedI.check w _ (keyI hn), h1, MapKept.run_setObj_map _ hb, Result.andThen]; exact rfl, ⟨_, _, heap_setBlock_same hb _, fun e he => ?_, fun m hm2 => ?_, hm.uniq⟩, hO⟩
    · obtain ⟨m, k1, k2, k3⟩ := hm.keys e he
      have : m ≠ n := fun e2 => h2 e he (by rw [k2, e2])
      exact ⟨m, k1, k2, by rw [updF_other _ _ _ this]; exact k3.keep (hO.keep hP) (fun _ h => h)⟩
    · by_cases e : m = n
      · rw [e, updF_same] at hm2
        exact absurd rfl hm2
      · rw [updF_other _ _ _ e] at hm2
        exact hm.has m hm2
  · have hjl : j < es.toList.length := (List.getElem?_eq_some_iff.1 h2).1
    have hje : es.toList[j] = e0 := (List.getElem?_eq_some_iff.1 h2).2
    have hjs : j < es.size := by simpa using hjl
    have hsub : (es.eraseIdxIfInBounds j).toList = es.toList.eraseIdx j := by
      unfold Array.eraseIdxIfInBounds
      rw [dif_pos hjs]
      simp
    have hO : OnlyB mb w (setBlock w mb (.map (es.eraseIdxIfInBounds j) clk)) := onlyB_set hb
    refine ⟨_, by simp [Builtin.delete_, run_underlying Tryz.underlying64, MapKept.run_getObj_map hb, keyedI.check w _ (keyI hn), h1, MapKept.run_setObj_map _ hb, Result.andThen]; exact rfl, ⟨_, _, heap_setBlock_same hb _, fun e he => ?_, fun m hm2 => ?_, ?_⟩, hO⟩
    · rw [hsub] at he
      obtain ⟨i, hne, hi⟩ := List.mem_eraseIdx_iff_getElem?.1 he
      obtain ⟨m, k1, k2, k3⟩ := hm.keys e (List.mem_of_getElem? hi)
      obtain ⟨hil, hie⟩ := List.getElem?_eq_some_iff.1 hi
      have : m ≠ n := fun e2 => by
        rcases Nat.lt_or_gt_of_ne hne with h | h
        · exact List.pairwise_iff_getElem.1 hm.uniq i j hil hjl h (by rw [hie, k2, hje, h3, e2])
        · exact List.pairwise_iff_getElem.1 hm.uniq j i hjl hil h (by rw [hie, k2, hje, h3, e2])
      exact ⟨m, k1, k2, by rw [updF_other _ _ _ this]; exact k3.keep (hO.keep hP) (fun _ h => h)⟩
    · by_cases e : m = n
      · rw [e, updF_same] at hm2
        exact absurd rfl hm2
      · rw [updF_other _ _ _ e] at hm2
        obtain ⟨x, hx, hk⟩ := hm.has m hm2
        obtain ⟨i, hi, ex⟩ := List.getElem_of_mem hx
        rw [hsub]
        refine ⟨x, List.mem_eraseIdx_iff_getElem?.2 ⟨i, fun e2 => ?_, by rw [List.getElem?_eq_getElem hi, ex]⟩, hk⟩
        subst e2
        rw [← ex, hje, h3] at hk
        exact e (int_inj hk).symm
    · rw [hsub]
      exact hm.uniq.sublist (List.eraseIdx_sublist _ _)

end Go.Proofs.YtcbncdigejjcpaaGreatDoor

namespace Go.Proofs.YtcbncdigejjcpaaGreatDoor
open Go.RowKit
open Crc Slot

theorem Below.drewN {B : Nat} {a w : World} (h : Below B a w) (n : Nat) : Below B a (w.drewN n) := ⟨h.os, h.tape, h.output, h.size, h.block⟩
theorem cut_lib (c : UInt8) : ∀ l : List UInt8, Lib.cut l [c] = cut c l := fun l => by
  have key : ∀ l : List UInt8, (c ∉ l → Lib.index l [c] = -1) ∧ (∀ p r, l = p ++ c :: r → c ∉ p → Lib.index l [c] = p.length) := by
    intro l
    induction l with
    | nil => exact ⟨fun _ => rfl, fun p r h _ => by simp at h⟩
    | cons b l ih =>
      constructor
      · intro h
        have hb : ¬ c = b := fun e => h (by simp [e])
        have := ih.1 (fun m => h (List.mem_cons_of_mem _ m))
        simp [Lib.index, List.isPrefixOf, hb, this]
      · intro p r h hp
        cases p with
        | nil =>
          simp at h
          simp [Lib.index, List.isPrefixOf, h.1]
        | cons x p =>
          simp at h
          obtain ⟨rfl, h2⟩ := h
          have hb : ¬ c = b := fun e => hp (by simp [e])
          have := ih.2 p r h2 (fun m => hp (List.mem_cons_of_mem _ m))
          have ne : ¬ ((p.length : Int) = -1) := by omega
          simp [Lib.index, List.isPrefixOf, hb, this, ne]
  rcases cut_cases c l with ⟨p, r, rfl, h⟩ | h
  · rw [cut_hit h]
    unfold Lib.cut
    rw [(key _).2 p r rfl h, if_pos (by omega)]
    simp
  · rw [cut_miss h]
    unfold Lib.cut
    rw [(key _).1 h, if_neg (by omega)]

theorem index_one (l : List UInt8) (c : UInt8) : Lib.indexByte l c = Lib.index l [c] := (Lib.index_one l c).symm
set_option maxHeartbeats 1000000 in
theorem cut_inner (l : List UInt8) (c : UInt8) (w : World) (hl : l.length ≤ 9223372036854775807) :
    Calls Tryz.prog 269 #[.string ⟨l.toArray⟩, .string ⟨#[c]⟩] w fun e w' => e = .returned (.tuple #[.string ⟨(cut c l).1.toArray⟩, .string ⟨(cut c l).2.1.toArray⟩, .bool (cut c l).2.2]) ∧ ∃ n, w' = w.drewN n := by
  have HI := hid (Tryz.stringslite_Index_one ⟨l.toArray⟩ c)
  rw [← cut_lib c l]
  rcases Lib.indexB_cases ⟨l.toArray⟩ ⟨#[c]⟩ with hix | ⟨i, hix, hroom⟩
  · obtain ⟨e1, e2, e3⟩ := Lib.cutB_miss ⟨l.toArray⟩ ⟨#[c]⟩ hix
    simp only at e1 e2 e3
    rw [e1, e2, e3]
    have HX : Hid (Lib.indexByte l c = -1) := (index_one l c).trans hix
    clear hix
    go_enter Tryz.func269, Tryz.ntmps269
    go_wp2_with (go_at_call 286; refine (HI.out _).mono ?_; rintro e w' ⟨rfl, rfl⟩; rw [HX.out])
    go_ret3
    exact ⟨rfl, 0, rfl⟩
  · obtain ⟨e1, e2, e3⟩ := Lib.cutB_hit ⟨l.toArray⟩ ⟨#[c]⟩ i hix
    simp only at e1 e2 e3
    rw [e1, e2, e3]
    have HX : Hid (Lib.indexByte l c = i) := (index_one l c).trans hix
    have c0 : i < l.length := by have := hroom; simp [ByteArray.size] at this; omega
    clear hix hroom
    go_enter Tryz.func269, Tryz.ntmps269
    go_wp2_with (go_at_call 286; refine (HI.out _).mono ?_; rintro e w' ⟨rfl, rfl⟩; rw [HX.out])
    go_quiet ((fail))
    go_wp2
    go_ret3
    exact ⟨rfl, _, rfl⟩
/-- strings.Cut, of one byte -/
theorem cut_any (l : List UInt8) (c : UInt8) (w : World) (hl : l.length ≤ 9223372036854775807) :
    Calls Tryz.prog 231 #[.string ⟨l.toArray⟩, .string ⟨#[c]⟩] w fun e w' => e = .returned (.tuple #[.string ⟨(cut c l).1.toArray⟩, .string ⟨(cut c l).2.1.toArray⟩, .bool (cut c l).2.2]) ∧ ∃ n, w' = w.drewN n := by
  go_enter Tryz.func231, Tryz.ntmps231
  go_wp2_with (go_at_call 269; refine (cut_inner _ _ _ hl).mono ?_; rintro e w' ⟨rfl, n, rfl⟩)
  go_ret3
  exact ⟨rfl, n, rfl⟩
theorem tag_eq (key : List UInt8) : tag key = if (cut 123 key).2.2 = false then key
  else if (cut 125 (cut 123 key).2.1).2.2 = false ∨ (cut 125 (cut 123 key).2.1).1 = [] then key
  else (cut 125 (cut 123 key).2.1).1 := rfl
theorem cut_short (c : UInt8) (l : List UInt8) : (cut c l).1.length ≤ l.length ∧ (cut c l).2.1.length ≤ l.length := by
  rcases cut_cases c l with ⟨p, r, rfl, h⟩ | h
  · rw [cut_hit h]; simp; omega
  · rw [cut_miss h]; simp

set_option maxHeartbeats 1000000 in
/-- Tag -/
theorem tag_any (l : List UInt8) (w : World) (hl : l.length ≤ 9223372036854775807) :
    Calls Tryz.prog 189 #[.string ⟨l.toArray⟩] w fun e w' => e = .returned (.string ⟨(tag l).toArray⟩) ∧ ∃ n, w' = w.drewN n := by
  have H1 := hid fun w => cut_any l 123 w hl
  have H2 := hid fun w => cut_any (cut 123 l).2.1 125 w (by have := (cut_short 123 l).2; omega)
  have HT := hid (tag_eq l)
  generalize hm : tag l = T at HT
  clear hl hm
  generalize cut 123 l = C at H1 H2 HT
  obtain ⟨a, b, m⟩ := C
  simp only at H1 H2 HT
  generalize cut 125 b = D at H2 HT
  obtain ⟨t, r, k⟩ := D
  simp only at H2 HT
  cases m
  · rw [if_pos rfl] at HT
    go_enter Tryz.func189, Tryz.ntmps189
    go_wp2_with (go_at_call 231; refine (H1.out _).mono ?_; rintro e w' ⟨rfl, n1, rfl⟩)
    go_ret
    exact ⟨ret_str HT.out.symm, _, rfl⟩
  · rw [if_neg (by decide)] at HT
    cases k
    · rw [if_pos (.inl rfl)] at HT
      go_enter Tryz.func189, Tryz.ntmps189
      go_wp2_with fail
      refine (H1.out _).mono ?_; rintro e w' ⟨rfl, n1, rfl⟩
      go_wp2_with fail
      refine (H2.out _).mono ?_; rintro e w' ⟨rfl, n2, rfl⟩
      go_wp2
      go_ret
      exact ⟨ret_str HT.out.symm, _, rfl⟩
    · cases t with
      | nil =>
        rw [if_pos (.inr rfl)] at HT
        go_enter Tryz.func189, Tryz.ntmps189
        go_wp2_with fail
        refine (H1.out _).mono ?_; rintro e w' ⟨rfl, n1, rfl⟩
        go_wp2_with fail
        refine (H2.out _).mono ?_; rintro e w' ⟨rfl, n2, rfl⟩
        go_wp2
        go_ret
        exact ⟨ret_str HT.out.symm, _, rfl⟩
      | cons x t =>
        rw [if_neg (by simp)] at HT
        have hx : (x :: t).isEmpty = false := rfl
        generalize x :: t = t at H2 HT hx
        go_enter Tryz.func189, Tryz.ntmps189
        go_wp2_with fail
        refine (H1.out _).mono ?_; rintro e w' ⟨rfl, n1, rfl⟩
        go_wp2_with fail
        refine (H2.out _).mono ?_; rintro e w' ⟨rfl, n2, rfl⟩
        go_wp2
        go_ret
        exact ⟨ret_str HT.out.symm, _, rfl⟩

set_option maxHeartbeats 1000000 in
/-- Of -/
theorem of_any (l : List UInt8) (w : World) (ht : Tab w) (hr : 8 < w.heap.size) (hl : l.length ≤ 9223372036854775807) :
    Calls Tryz.prog 131 #[.string ⟨l.toArray⟩] w fun e w' => e = .returned (.int .i64 (slotOf l : Int)) ∧ Hid (Below w.heap.size w w') := by
  have kc := fun (w : World) (s : ByteArray) => Lib.run_convert_string_bytes (P := Tryz.prog) w 9 104 5 s Tryz.underlying9 Tryz.underlying104 Tryz.underlying5
  have HG := hid fun w => tag_any l w hl
  have HS : Hid (∀ n c, Calls Tryz.prog 188 #[.slice (some ⟨w.heap.size, 0, none⟩) (tag l).length c] (Lib.bytesWorld (w.drewN n) 5 ⟨(tag l).toArray⟩) fun e w' => e = .returned (.int .u16 ((Crc.more 0#16 ((tag l).map UInt8.toBitVec)).toNat : Int)) ∧ w' = Lib.bytesWorld (w.drewN n) 5 ⟨(tag l).toArray⟩) :=
    fun n c => Dc.sum_of (tag l) c (w.drewN n) (ht.turn (fun _ _ => rfl) (Nat.le_refl _)) hr (by have := tag_length l; omega)
  have HB : Hid (∀ n s, Below w.heap.size w (Lib.bytesWorld (w.drewN n) 5 s)) := fun n s => (Below.drewN (Below.refl _ w) n).trans (Dc.bytesWorld_below (w.drewN n) _ s)
  have hd : Hid (slotOf l = (Crc.more 0#16 ((tag l).map UInt8.toBitVec)).toNat % 16384) := rfl
  have hx := (Crc.more 0#16 ((tag l).map UInt8.toBitVec)).isLt
  generalize tag l = T at HG HS hd hx
  generalize (Crc.more 0#16 (T.map UInt8.toBitVec)).toNat = x at HS hd hx
  clear ht hr hl
  go_enter Tryz.func131, Tryz.ntmps131
  go_wp2_with fail
  refine (HG.out _).mono ?_; rintro e w' ⟨rfl, n, rfl⟩
  go_wp2_with fail
  refine (HS.out n _).mono ?_; rintro e w' ⟨rfl, rfl⟩
  go_wp2
  go_ret
  exact ⟨ret_int (by rw [hd.out]; simp), HB.out _ _⟩

end Go.Proofs.YtcbncdigejjcpaaGreatDoor
