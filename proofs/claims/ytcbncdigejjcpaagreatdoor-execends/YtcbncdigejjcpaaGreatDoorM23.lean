/- TbKeys, ExM, XB. -/
import Derived.Test.YtcbncdigejjcpaaGreatDoorM17
import Derived.Test.YtcbncdigejjcpaaGreatDoorM21
import Derived.Test.YtcbncdigejjcpaaGreatDoorM09
import Derived.Test.YtcbncdigejjcpaaGreatDoorM10
import Derived.Deep.WholeRow
import Derived.Test.YtcbncdigejjcpaaGreatDoorM16
namespace Go.Proofs.YtcbncdigejjcpaaGreatDoor.Tb
open Go.RowKit

/-- the texts at the places that p tells, the first being at the place k -/
def selL (p : Nat → Bool) : Nat → Row → Row
  | _, [] => []
  | k, x :: r => (if p k then [x] else []) ++ selL p (k + 1) r
/-- is the argument at the place i a key -/
def pk (s : Sp) (i : Nat) : Bool := decide (0 < s.fi) && decide (s.fi ≤ (i : Int)) && (decide ((i : Int) ≤ s.la) || decide (s.la = -1)) && decide (((i : Int) - s.fi).tmod s.st = 0)
def pks (l : Row) (i : Nat) : Bool := decide ((chk l).2 = 0) && pk (chk l).1 i
/-- what Keys tells -/
def keysL (l : Row) : Row := selL (pks l) 1 (l.drop 1)
end Go.Proofs.YtcbncdigejjcpaaGreatDoor.Tb

namespace Go.Proofs.YtcbncdigejjcpaaGreatDoor.Ex

open Re (Rep)

def fUnknown : Nm := [69, 82, 82, 32, 117, 110, 107, 110, 111, 119, 110, 32, 99, 111, 109, 109, 97, 110, 100]
def fArity : Nm := [69, 82, 82, 32, 119, 114, 111, 110, 103, 32, 110, 117, 109, 98, 101, 114, 32, 111, 102, 32, 97, 114, 103, 117, 109, 101, 110, 116, 115]
def fType : Nm := [87, 82, 79, 78, 71, 84, 89, 80, 69]
def fNumber : Nm := [69, 82, 82, 32, 110, 111, 116, 32, 97, 32, 110, 117, 109, 98, 101, 114]
def fPoint : Nm := [69, 82, 82, 32, 110, 111, 116, 32, 97, 32, 112, 111, 105, 110, 116]
def fOver : Nm := [69, 82, 82, 32, 111, 118, 101, 114, 102, 108, 111, 119]
def fSyntax : Nm := [69, 82, 82, 32, 115, 121, 110, 116, 97, 120]
def fSlot : Nm := [69, 82, 82, 32, 110, 111, 32, 115, 117, 99, 104, 32, 115, 108, 111, 116]
def fLoad : Nm := [69, 82, 82, 32, 98, 97, 100, 32, 112, 97, 121, 108, 111, 97, 100]
def fBusy : Nm := [66, 85, 83, 89, 75, 69, 89]
def fPast : Nm := [69, 82, 82, 32, 112, 97, 115, 116]
def fLong : Nm := [69, 82, 82, 32, 116, 111, 111, 32, 108, 111, 110, 103]
def fOom : Nm := [79, 79, 77]
def tOk : Nm := [79, 75]
def tPong : Nm := [80, 79, 78, 71]
def fault (t : Nm) : Rep := .mk 2 0 t []
def wholeR (n : Int) : Rep := .mk 3 n [] []
def bulkR (t : Nm) : Rep := .mk 4 0 t []
def simR (t : Nm) : Rep := .mk 1 0 t []
def okR : Rep := simR tOk
def nilR : Rep := .mk 5 0 [] []
def manyR (l : List Rep) : Rep := .mk 6 0 [] l
def bulksR (l : Row) : Rep := manyR (l.map bulkR)
/-- an argument -/
def arg (a : Row) (i : Nat) : Nm := a.getD i []
/-- a key's value, and its end -/
def valOf (L : List EP) (k : Nm) : Vl := match getL k L with
  | some x => x.2.1
  | none => zeroV
def endOf (L : List EP) (k : Nm) : Int := match getL k L with
  | some x => x.2.2
  | none => 0
def isIn (L : List EP) (k : Nm) : Bool := (getL k L).isSome
/-- a value of which nothing is left -/
def emptyV (v : Vl) : Bool := (v.kind == 2 && v.pairs.isEmpty) || ((v.kind == 3 || v.kind == 4) && v.items.isEmpty)
/-- an entry is put (or its key goes), and the answer -/
noncomputable def withM (room now : Int) (L : List EP) (x : EP) (r : Rep) : List EP × Rep :=
  if emptyV x.2.1 then (delL x.1 L, r) else if putEL L room now x = 110 then (L, fault fOom) else if putEL L room now x ≠ 0 then (L, fault fLong) else (putLL L room now x, r)
def plainV (t : Nm) : Vl := ⟨1, t, [], [], 0, 0⟩
def hashV (l : List (Nm × Nm)) : Vl := ⟨2, [], l, [], 0, 0⟩
def listV (l : Row) : Vl := ⟨3, [], [], l, 0, 0⟩
def setV (l : Row) : Vl := ⟨4, [], [], l, 0, 0⟩
def pointV (x y : Int) : Vl := ⟨5, [], [], [], x, y⟩
/-- pairs in which a field has a value -/
def put1 (f v : Nm) : Bool → List (Nm × Nm) → List (Nm × Nm)
  | done, [] => if done then [] else [(f, v)]
  | done, p :: r => (if done = false ∧ ¬ p.1 < f then [(f, v)] else []) ++ ((if p.1 = f then [] else [p]) ++ put1 f v (done || decide (¬ p.1 < f)) r)
def putF (l : List (Nm × Nm)) (f v : Nm) : List (Nm × Nm) := put1 f v false l
def delF (l : List (Nm × Nm)) (f : Nm) : List (Nm × Nm) := l.filter fun p => !(p.1 == f)
def putFs : List (Nm × Nm) → Row → List (Nm × Nm) × Int
  | l, f :: v :: r => ((putFs (putF l f v) r).1, ((putF l f v).length : Int) - (l.length : Int) + (putFs (putF l f v) r).2)
  | l, _ => (l, 0)
def delFs : List (Nm × Nm) → Row → List (Nm × Nm) × Int
  | l, f :: r => ((delFs (delF l f) r).1, (l.length : Int) - ((delF l f).length : Int) + (delFs (delF l f) r).2)
  | l, [] => (l, 0)
/-- items with others at an end; none: too many -/
def pushM (front : Bool) : Row → Row → Option Row
  | l, [] => some l
  | l, t :: r => if 256 ≤ l.length then none else pushM front (if front then t :: l else l ++ [t]) r
def plc (n m : Int) : Int := if n < 0 then n + m else n
def clA (f t m : Int) : Int := if m < 1 then 0 else if (if m - 1 < plc t m then m - 1 else plc t m) < (if plc f m < 0 then 0 else plc f m) then 0 else if plc f m < 0 then 0 else plc f m
def clB (f t m : Int) : Int := if m < 1 then 0 else if (if m - 1 < plc t m then m - 1 else plc t m) < (if plc f m < 0 then 0 else plc f m) then 0 else (if m - 1 < plc t m then m - 1 else plc t m) + 1
def rangeM (l : Row) (f t : Int) : Row := (l.drop (clA f t l.length).toNat).take ((clB f t l.length).toNat - (clA f t l.length).toNat)
def addS : Row → Row → Row × Int
  | l, t :: r => ((addS (ins t l) r).1, (if t ∈ l then 0 else 1) + (addS (ins t l) r).2)
  | l, [] => (l, 0)
def delS : Row → Row → Row × Int
  | l, t :: r => ((delS (del t l) r).1, (if t ∈ l then 1 else 0) + (delS (del t l) r).2)
  | l, [] => (l, 0)
/-- the kind that a command's key must have; 0: any -/
def kindC (c : Nat) : Int :=
  if c = 3 ∨ c = 8 ∨ c = 9 ∨ c = 10 then 1 else if 13 ≤ c ∧ c ≤ 17 then 2 else if 18 ≤ c ∧ c ≤ 25 then 3 else if 26 ≤ c ∧ c ≤ 33 then 4 else if 35 ≤ c ∧ c ≤ 39 then 5 else 0
/-- the arguments that must be numbers -/
def numsC (c : Nat) (a : Row) : Row := if c = 10 ∨ c = 23 ∨ c = 38 ∨ c = 40 then [arg a 2] else if c = 24 ∨ c = 25 then [arg a 2, arg a 3] else []
/-- what is amiss ahead of what a command does -/
noncomputable def early (L : List EP) (c : Nat) (a : Row) : Option Nm :=
  if c = 13 ∧ a.length % 2 = 1 then some fSyntax
  else if (numsC c a).any (fun t => Num.tellE t != 0) then some fNumber
  else if (c = 34 ∨ c = 36 ∨ c = 37) ∧ (Num.parseP (arg a 2)).e ≠ 0 then some fPoint
  else if kindC c ≠ 0 ∧ (Tb.keysL a).any (fun k => isIn L k && (valOf L k).kind != kindC c) then some fType
  else none
/-- keys that are counted, and go -/
def delKs : List EP → Row → List EP × Int
  | L, k :: r => ((delKs (delL k L) r).1, (if isIn L k then 1 else 0) + (delKs (delL k L) r).2)
  | L, [] => (L, 0)
def cntKs (L : List EP) : Row → Int
  | k :: r => (if isIn L k then 1 else 0) + cntKs L r
  | [] => 0
def mgetR (L : List EP) (k : Nm) : Rep := if isIn L k && (valOf L k).kind == 1 then bulkR (valOf L k).text else nilR
/-- pairs of keys and texts, one behind the other; at the first fault nothing -/
noncomputable def msetM (room now : Int) : List EP → Row → List EP × Rep
  | L, k :: t :: r => if (withM room now L (k, plainV t, 0) okR).2.kind = 2 then withM room now L (k, plainV t, 0) okR else msetM room now (withM room now L (k, plainV t, 0) okR).1 r
  | L, _ => (L, okR)
/-- sets of further keys -/
noncomputable def foldKs (f : Row → Row → Row) (L : List EP) (l : Row) (ks : Row) : Row := ks.foldl (fun l k => f l (valOf L k).items) l
/-- what the command c does; a: its arguments, its name ahead -/
noncomputable def doC (room now : Int) (L : List EP) (c : Nat) (a : Row) : List EP × Rep :=
  let k := arg a 1
  let v := valOf L k
  let e := endOf L k
  match c with
  | 1 => (L, simR tPong)
  | 2 => (L, bulkR k)
  | 3 => (L, if isIn L k then bulkR v.text else nilR)
  | 4 => withM room now L (k, plainV (arg a 2), 0) okR
  | 5 => ((delKs L (a.drop 1)).1, wholeR (delKs L (a.drop 1)).2)
  | 6 => (L, wholeR (cntKs L (a.drop 1)))
  | 7 => (L, simR (typeV v.kind))
  | 8 => withM room now L (k, plainV (v.text ++ arg a 2), e) (wholeR ((v.text ++ arg a 2).length : Int))
  | 9 => (L, wholeR (v.text.length : Int))
  | 10 => let was := if isIn L k then v.text else [48]
    if Num.tellE was ≠ 0 then (L, fault fNumber)
    else if Num.tellV was + Num.tellV (arg a 2) < -9223372036854775808 ∨ 9223372036854775807 < Num.tellV was + Num.tellV (arg a 2) then (L, fault fOver)
    else withM room now L (k, plainV (Lib.itoa (Num.tellV was + Num.tellV (arg a 2))), e) (wholeR (Num.tellV was + Num.tellV (arg a 2)))
  | 11 => (L, manyR ((a.drop 1).map (mgetR L)))
  | 12 => if (msetM room now L (a.drop 1)).2.kind = 2 then (L, (msetM room now L (a.drop 1)).2) else msetM room now L (a.drop 1)
  | 13 => withM room now L (k, hashV (putFs v.pairs (a.drop 2)).1, e) (wholeR (putFs v.pairs (a.drop 2)).2)
  | 14 => (L, match v.pairs.find? (fun p => p.1 == arg a 2) with | some p => bulkR p.2 | none => nilR)
  | 15 => withM room now L (k, hashV (delFs v.pairs (a.drop 2)).1, e) (wholeR (delFs v.pairs (a.drop 2)).2)
  | 16 => (L, wholeR (v.pairs.length : Int))
  | 17 => (L, bulksR (flat v.pairs))
  | 18 => match pushM true v.items (a.drop 2) with
    | none => (L, fault fLong)
    | some l => withM room now L (k, listV l, e) (wholeR (l.length : Int))
  | 19 => match pushM false v.items (a.drop 2) with
    | none => (L, fault fLong)
    | some l => withM room now L (k, listV l, e) (wholeR (l.length : Int))
  | 20 => if v.items.isEmpty then (L, nilR) else withM room now L (k, listV v.items.tail, e) (bulkR (v.items.headD []))
  | 21 => if v.items.isEmpty then (L, nilR) else withM room now L (k, listV v.items.dropLast, e) (bulkR (v.items.getLastD []))
  | 22 => (L, wholeR (v.items.length : Int))
  | 23 => (L, let n := plc (Num.tellV (arg a 2)) v.items.length; if n < 0 ∨ (v.items.length : Int) ≤ n then nilR else bulkR (v.items.getD n.toNat []))
  | 24 => (L, bulksR (rangeM v.items (Num.tellV (arg a 2)) (Num.tellV (arg a 3))))
  | 25 => withM room now L (k, listV (rangeM v.items (Num.tellV (arg a 2)) (Num.tellV (arg a 3))), e) okR
  | 26 => withM room now L (k, setV (addS v.items (a.drop 2)).1, e) (wholeR (addS v.items (a.drop 2)).2)
  | 27 => withM room now L (k, setV (delS v.items (a.drop 2)).1, e) (wholeR (delS v.items (a.drop 2)).2)
  | 28 => (L, wholeR (if arg a 2 ∈ v.items then 1 else 0))
  | 29 => (L, bulksR v.items)
  | 30 => (L, wholeR (v.items.length : Int))
  | 31 => (L, bulksR (foldKs insAll L v.items (a.drop 2)))
  | 32 => (L, bulksR (foldKs meet L v.items (a.drop 2)))
  | 33 => (L, bulksR (foldKs less L v.items (a.drop 2)))
  | 34 => withM room now L (k, pointV (Num.parseP (arg a 2)).x (Num.parseP (arg a 2)).y, 0) okR
  | 35 => (L, if isIn L k then bulkR (Num.printP v.px v.py) else nilR)
  | 36 => let q := Num.parseP (arg a 2); let s := Num.addP v.px v.py q.x q.y
    if s.e ≠ 0 then (L, fault fOver) else withM room now L (k, pointV s.x s.y, e) (bulkR (Num.printP s.x s.y))
  | 37 => let q := Num.parseP (arg a 2); let s := Num.mulP v.px v.py q.x q.y
    if s.e ≠ 0 then (L, fault fOver) else withM room now L (k, pointV s.x s.y, e) (bulkR (Num.printP s.x s.y))
  | 38 => let s := Num.turnP v.px v.py (Num.tellV (arg a 2)); withM room now L (k, pointV s.1 s.2, e) (bulkR (Num.printP s.1 s.2))
  | 39 => (L, wholeR (Num.normP v.px v.py))
  | 40 => if isIn L k = false then (L, wholeR 0) else
    let n := min (Num.tellV (arg a 2)) (1099511627776 - now)
    if n < 1 then (delL k L, wholeR 1) else withM room now L (k, v, now + n) (wholeR 1)
  | 41 => (L, wholeR (if isIn L k = false then -2 else if e = 0 then -1 else e - now))
  | 42 => if isIn L k = false ∨ e = 0 then (L, wholeR 0) else withM room now L (k, v, 0) (wholeR 1)
  | 43 => (L, if isIn L k then bulkR (dumpS v) else nilR)
  | 44 => let n := Num.tellV (arg a 2)
    if Num.tellE (arg a 2) ≠ 0 ∨ n < 0 ∨ 1099511627776 < n then (L, fault fNumber)
    else if isIn L k then (L, fault fBusy)
    else if (loadV (arg a 3)).2 ≠ 0 then (L, fault fLoad)
    else if 0 < n ∧ n ≤ now then (L, fault fPast)
    else withM room now L (k, (loadV (arg a 3)).1, n) okR
  | 45 => (L, wholeR (slotOf k : Int))
  | 46 => if Num.tellE k ≠ 0 ∨ Num.tellV k < 0 ∨ 16383 < Num.tellV k then (L, fault fSlot) else (L, wholeR ((slotL (Num.tellV k) L).length : Int))
  | 47 => if Num.tellE k ≠ 0 ∨ Num.tellV k < 0 ∨ 16383 < Num.tellV k then (L, fault fSlot) else if Num.tellE (arg a 2) ≠ 0 then (L, fault fNumber) else (L, bulksR (keysL (Num.tellV k) (Num.tellV (arg a 2)) L))
  | _ => (L, nilR)
/-- a command is done: the list, the clock, the answer -/
noncomputable def doM (room : Int) (L : List EP) (now : Int) (a : Row) (t : Int) : List EP × Int × Rep :=
  let n := tickN now t
  let M := tickL n L
  if (Tb.chk a).2 = 120 then (M, n, fault fUnknown) else if (Tb.chk a).2 ≠ 0 then (M, n, fault fArity)
  else match early M (Tb.place (Tb.great (arg a 0))) a with
    | some f => (M, n, fault f)
    | none => ((doC room n M (Tb.place (Tb.great (arg a 0))) a).1, n, (doC room n M (Tb.place (Tb.great (arg a 0))) a).2)

end Go.Proofs.YtcbncdigejjcpaaGreatDoor.Ex

namespace Go.Proofs.YtcbncdigejjcpaaGreatDoor.Ex
open Re (Rep)
open Go.RowKit

abbrev pt (b : Nat) : Value := .pointer (some ⟨b, 0, none⟩)
/-- a command that is being done -/
abbrev cv (b : Nat) (nm : Nm) (p : Option Addr) (n c : Nat) : Value := .agg #[pt b, txt nm, .slice p n c]
abbrev cob (b : Nat) (nm : Nm) (p : Option Addr) (n c : Nat) : Obj := .cells #[pt b, txt nm, .slice p n c] 69
/-- a reply's value -/
abbrev rval (r : Rep) (q : Option Addr) (d : Nat) : Value := .agg #[.int .i64 r.kind, .int .i64 r.int, txt r.text, .slice q r.list.length d]
abbrev rob (r : Rep) (q : Option Addr) (d : Nat) : Obj := .cells #[.int .i64 r.kind, .int .i64 r.int, txt r.text, .slice q r.list.length d] 32
abbrev rob0 : Obj := .cells #[.int .i64 0, .int .i64 0, txt [], .slice none 0 0] 32
theorem call_facts {w : World} {b : Nat} {x y z : Value} (h : w.heap[b]? = some (.cells #[x, y, z] 69 (0, 0))) : w.cell? ⟨b, 0, none⟩ = some x ∧ w.cell? ⟨b, 1, none⟩ = some y ∧ w.cell? ⟨b, 2, none⟩ = some z :=
  ⟨cell_of_row w b 0 _ _ _ h, cell_of_row w b 1 _ _ _ h, cell_of_row w b 2 _ _ _ h⟩
theorem rep_facts {w : World} {b : Nat} {x y z u : Value} (h : w.heap[b]? = some (.cells #[x, y, z, u] 32 (0, 0))) : w.cell? ⟨b, 0, none⟩ = some x ∧ w.cell? ⟨b, 1, none⟩ = some y ∧ w.cell? ⟨b, 2, none⟩ = some z ∧ w.cell? ⟨b, 3, none⟩ = some u :=
  ⟨cell_of_row w b 0 _ _ _ h, cell_of_row w b 1 _ _ _ h, cell_of_row w b 2 _ _ _ h, cell_of_row w b 3 _ _ _ h⟩
theorem rep_frozen {w : World} {b : Nat} {x y z u : Value} (h : w.heap[b]? = some (.cells #[x, y, z, u] 32 (0, 0))) : w.frozen? ⟨b, 0, none⟩ = false ∧ w.frozen? ⟨b, 1, none⟩ = false ∧ w.frozen? ⟨b, 2, none⟩ = false ∧ w.frozen? ⟨b, 3, none⟩ = false :=
  ⟨frozen_of_row w b 0 _ _ h, frozen_of_row w b 1 _ _ h, frozen_of_row w b 2 _ _ h, frozen_of_row w b 3 _ _ h⟩
abbrev set4 (w : World) (b : Nat) (v0 v1 v2 v3 : Value) : World := (((w.setCell ⟨b, 0, none⟩ v0).setCell ⟨b, 1, none⟩ v1).setCell ⟨b, 2, none⟩ v2).setCell ⟨b, 3, none⟩ v3
theorem set4_same {w : World} {b : Nat} {x y z u : Value} (v0 v1 v2 v3 : Value) (h : w.heap[b]? = some (.cells #[x, y, z, u] 32 (0, 0))) : (set4 w b v0 v1 v2 v3).heap[b]? = some (.cells #[v0, v1, v2, v3] 32 (0, 0)) := by
  have h0 : (w.setCell ⟨b, 0, none⟩ v0).heap[b]? = some (.cells #[v0, y, z, u] 32 (0, 0)) := heap_setCell_same _ b 0 _ _ _ h
  have h1 : ((w.setCell ⟨b, 0, none⟩ v0).setCell ⟨b, 1, none⟩ v1).heap[b]? = some (.cells #[v0, v1, z, u] 32 (0, 0)) := heap_setCell_same _ b 1 _ _ _ h0
  have h2 : (((w.setCell ⟨b, 0, none⟩ v0).setCell ⟨b, 1, none⟩ v1).setCell ⟨b, 2, none⟩ v2).heap[b]? = some (.cells #[v0, v1, v2, u] 32 (0, 0)) := heap_setCell_same _ b 2 _ _ _ h1
  exact heap_setCell_same _ b 3 _ _ _ h2
theorem set4_keep (w : World) (b : Nat) (v0 v1 v2 v3 : Value) : Keep (fun k => k ≠ b) w (set4 w b v0 v1 v2 v3) := by
  have s4 : ∀ (w : World) (i : Nat) (u : Value), (w.setCell ⟨b, i, none⟩ u).heap.size = w.heap.size := fun _ _ _ => by simp
  exact ⟨rfl, rfl, rfl, by rw [s4, s4, s4, s4]; exact Nat.le_refl _, fun k _ hk => by rw [heap_setCell_other _ _ _ _ hk, heap_setCell_other _ _ _ _ hk, heap_setCell_other _ _ _ _ hk, heap_setCell_other _ _ _ _ hk]⟩
theorem keep_one {n f : Nat} {w0 w w' : World} (h : Below n w0 w) (k : Keep (fun k => k ≠ f) w w') (hf : n ≤ f) (hn : n ≤ w.heap.size) : Below n w0 w' := ⟨k.os.trans h.os, k.tape.trans h.tape, k.output.trans h.output, Nat.le_trans h.size k.size, fun i hi => (k.block i (by omega) (by show i ≠ f; omega)).trans (h.block i hi)⟩
/-- a reply with no list -/
theorem flat_rp {P : Nat → Prop} {w : World} {k n : Int} {t : Nm} (hk : In64 k) (hn : In64 n) (ht : t.length ≤ 9223372036854775807) : Re.Rp P w 2 (.agg #[.int .i64 k, .int .i64 n, txt t, .slice none 0 0]) (.mk k n t []) :=
  ⟨none, 0, rfl, ⟨hk.1, hk.2, hn.1, hn.2, ht, by simp [Re.Rep.list]⟩, Re.RowOf.nil _ _ _ _⟩
set_option maxHeartbeats 1000000 in
set_option maxRecDepth 100000 in
/-- key -/
theorem key_any (b : Nat) (nm : Nm) (g o n c : Nat) (k : Nm) (w : World) (hn : 0 < n) (hk : w.cell? ⟨g, o, none⟩ = some (txt k)) :
    Calls Tryz.prog 124 #[cv b nm (some ⟨g, o, none⟩) n c] w fun e w' => e = .returned (txt k) ∧ Hid (Below w.heap.size w w') := by
  have HB := hid (below_alloc w (cob b nm (some ⟨g, o, none⟩) n c))
  have hnz : 0 < (n : Int) := by omega
  have hk1 := cell_turn hk (HB.out.block g (block_lt_of_cell hk))
  clear hn hk
  go_enter Tryz.func124, Tryz.ntmps124
  go_wp2_with fail
  go_ret
  exact ⟨rfl, HB.out⟩
set_option maxHeartbeats 1000000 in
set_option maxRecDepth 100000 in
/-- isFault -/
theorem fault_any (r : Rep) (q : Option Addr) (d : Nat) (w : World) :
    Calls Tryz.prog 151 #[rval r q d] w fun e w' => e = .returned (.bool (r.kind == 2)) ∧ Hid (Below w.heap.size w w') := by
  have HB := hid (below_alloc w (rob r q d))
  obtain ⟨k, n, t, l⟩ := r
  simp only [rval, rob, Re.Rep.kind, Re.Rep.int, Re.Rep.text, Re.Rep.list] at HB ⊢
  go_enter Tryz.func151, Tryz.ntmps151
  go_wp2_with fail
  go_ret
  exact ⟨rfl, HB.out⟩
set_option maxHeartbeats 1000000 in
set_option maxRecDepth 100000 in
/-- simple -/
theorem simple_any (t : Nm) (w : World) :
    Calls Tryz.prog 129 #[txt t] w fun e w' => e = .returned (.agg #[.int .i64 1, .int .i64 0, txt t, .slice none 0 0]) ∧ Hid (Below w.heap.size w w') := by
  go_enter Tryz.func129, Tryz.ntmps129
  go_wp2
  refine bodyPost_ret (v := .agg #[.int .i64 1, .int .i64 0, txt t, .slice none 0 0]) ?_ rfl ?_
  · exact Re.ret_rep1 rfl rfl (heap_alloc_new w _)
  · exact ⟨rfl, below_alloc w _⟩
set_option maxHeartbeats 1000000 in
set_option maxRecDepth 100000 in
/-- done -/
theorem done_any (w : World) :
    Calls Tryz.prog 98 #[] w fun e w' => e = .returned (.agg #[.int .i64 1, .int .i64 0, txt tOk, .slice none 0 0]) ∧ Hid (Below w.heap.size w w') := by
  have HS := hid (simple_any tOk (w.alloc rob0))
  have HZ := hid (heap_alloc_new w rob0)
  have HB := hid (below_alloc w rob0)
  go_enter Tryz.func98, Tryz.ntmps98
  go_wp2_with fail
  refine HS.out.mono ?_; rintro e w1 ⟨rfl, hb1⟩
  have hz := (hb1.out.block w.heap.size (by simp)).trans HZ.out
  obtain ⟨f0, f1, f2, f3⟩ := rep_frozen hz
  obtain ⟨c0, c1, c2, c3⟩ := rep_facts hz
  have HZ1 := hid hz
  have HB1 := hid (HB.out.trans (hb1.out.mono HB.out.size))
  clear hz hb1
  go_wp2_with (refine wpList_store_row rfl 32 _ _ rfl w.heap.size #[.int .i64 1, .int .i64 0, txt tOk, .slice none 0 0] rfl rfl 32 _ HZ1.out (Re.infoRep _ _ _ _) rfl (Re.oneR _ _ _ _ _ _) ?_)
  refine bodyPost_ret (v := .agg #[.int .i64 1, .int .i64 0, txt tOk, .slice none 0 0]) ?_ rfl ?_
  · exact Re.ret_rep1 rfl rfl (setRow_heap w1 _ _ _ _ _ HZ1.out)
  · exact ⟨rfl, Re.below_setRow HB1.out (Nat.le_refl _) _⟩
/-- a text that may be there -/
def tonR (s : Nm) (t : Bool) : Rep := if t then bulkR s else nilR
set_option maxHeartbeats 1000000 in
set_option maxRecDepth 100000 in
/-- textOrNil -/
theorem ton_any (s : Nm) (t : Bool) (w : World) :
    Calls Tryz.prog 70 #[txt s, .bool t] w fun e w' => e = .returned (rval (tonR s t) none 0) ∧ Hid (Below w.heap.size w w') := by
  have HT := hid (Re.text_any s (w.alloc rob0))
  have HZ := hid (heap_alloc_new w rob0)
  have HB := hid (below_alloc w rob0)
  cases t
  · show Calls _ _ _ _ fun e w' => e = .returned (.agg #[.int .i64 5, .int .i64 0, txt [], .slice none 0 0]) ∧ _
    go_enter Tryz.func70, Tryz.ntmps70
    go_wp2_with fail
    refine bodyPost_ret (v := .agg #[.int .i64 5, .int .i64 0, txt [], .slice none 0 0]) ?_ rfl ?_
    · exact Re.ret_rep1 rfl rfl (heap_alloc_new w _)
    · exact ⟨rfl, below_alloc w _⟩
  · show Calls _ _ _ _ fun e w' => e = .returned (.agg #[.int .i64 4, .int .i64 0, txt s, .slice none 0 0]) ∧ _
    go_enter Tryz.func70, Tryz.ntmps70
    go_wp2_with fail
    refine HT.out.mono ?_; rintro e w1 ⟨rfl, hb1⟩
    have HZ1 := hid ((hb1.block w.heap.size (by simp)).trans HZ.out)
    have HB1 := hid (HB.out.trans (hb1.mono HB.out.size))
    clear hb1
    go_wp2_with (refine wpList_store_row rfl 32 _ _ rfl w.heap.size #[.int .i64 4, .int .i64 0, txt s, .slice none 0 0] rfl rfl 32 _ HZ1.out (Re.infoRep _ _ _ _) rfl (Re.oneR _ _ _ _ _ _) ?_)
    refine bodyPost_ret (v := .agg #[.int .i64 4, .int .i64 0, txt s, .slice none 0 0]) ?_ rfl ?_
    · exact Re.ret_rep1 rfl rfl (setRow_heap w1 _ _ _ _ _ HZ1.out)
    · exact ⟨rfl, Re.below_setRow HB1.out (Nat.le_refl _) _⟩
/-- the makers of replies -/
theorem wrong_any (t : Nm) (w : World) : Calls Tryz.prog 27 #[txt t] w fun e w' => e = .returned (rval (fault t) none 0) ∧ Hid (Below w.heap.size w w') := Re.wrong_any t w
theorem number_any (n : Int) (w : World) : Calls Tryz.prog 72 #[.int .i64 n] w fun e w' => e = .returned (rval (wholeR n) none 0) ∧ Hid (Below w.heap.size w w') := Re.number_any n w
/-- storing a reply, whatever it is -/
theorem one_r (r : Rep) (q : Option Addr) (d : Nat) : (#[.int .i64 r.kind, .int .i64 r.int, txt r.text, .slice q r.list.length d] : Array Value).all (·.oneCell') = true := Re.oneR _ _ _ _ _ _
set_option maxHeartbeats 1000000 in
set_option maxRecDepth 100000 in
/-- isEmpty -/
theorem empty_any (m : Vl) (pp : Option Addr) (pc' : Nat) (ip : Option Addr) (ic : Nat) (w : World) (hp : m.pairs.length ≤ 140737488351232) (hi : m.items.length ≤ 140737488351232) (V : Bool) (hV : V = (decide (m.kind = 2 ∨ m.kind = 3 ∨ m.kind = 4) && (m.pairs.isEmpty && m.items.isEmpty))) :
    Calls Tryz.prog 152 #[vv m pp pc' ip ic] w fun e w' => e = .returned (.bool V) ∧ Hid (Below w.heap.size w w') := by
  have HB := hid (below_alloc w (vob m pp pc' ip ic))
  have hpz : (m.pairs.length : Int) ≤ 140737488351232 := by omega
  have hiz : (m.items.length : Int) ≤ 140737488351232 := by omega
  obtain ⟨k, t, ps, is, x, y⟩ := m
  simp only at *
  have hpe : ps.isEmpty = decide (ps.length = 0) := by cases ps <;> simp
  have hie : is.isEmpty = decide (is.length = 0) := by cases is <;> simp
  rw [hpe, hie] at hV
  clear hpe hie hp hi
  by_cases hk : k = 2 ∨ k = 3 ∨ k = 4
  · rw [decide_eq_true hk, Bool.true_and] at hV
    by_cases h1 : ps.length = 0
    · obtain rfl := List.length_eq_zero_iff.1 h1
      by_cases h2 : is.length = 0
      · obtain rfl := List.length_eq_zero_iff.1 h2
        subst hV
        clear h1 h2
        rcases hk with rfl | rfl | rfl
        all_goals
          go_enter Tryz.func152, Tryz.ntmps152
          go_wp2_with fail
          go_ret
          exact ⟨rfl, HB.out⟩
      · have h2b : ((is.length : Int) == 0) = false := beq_eq_false_iff_ne.2 (by omega)
        rw [decide_eq_false h2] at hV
        subst hV
        clear h2 h1
        rcases hk with rfl | rfl | rfl
        all_goals
          go_enter Tryz.func152, Tryz.ntmps152
          go_wp2_with fail
          go_ret
          exact ⟨by simp, HB.out⟩
    · have h1b : ((ps.length : Int) == 0) = false := beq_eq_false_iff_ne.2 (by omega)
      rw [decide_eq_false h1, Bool.false_and] at hV
      subst hV
      clear h1
      rcases hk with rfl | rfl | rfl
      all_goals
        go_enter Tryz.func152, Tryz.ntmps152
        go_wp2_with fail
        go_ret
        exact ⟨rfl, HB.out⟩
  · rw [decide_eq_false hk, Bool.false_and] at hV
    subst hV
    have b2 : (k == 2) = false := beq_eq_false_iff_ne.2 (by omega)
    have b3 : (k == 3) = false := beq_eq_false_iff_ne.2 (by omega)
    have b4 : (k == 4) = false := beq_eq_false_iff_ne.2 (by omega)
    clear hk
    go_enter Tryz.func152, Tryz.ntmps152
    go_wp2_with fail
    go_ret
    exact ⟨rfl, HB.out⟩

end Go.Proofs.YtcbncdigejjcpaaGreatDoor.Ex
