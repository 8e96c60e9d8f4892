/- TbModel, Shelf, DcSorted, DcMeth, ShelfS. -/
import Derived.WalkKit
import Derived.Test.YtcbncdigejjcpaaGreatDoorProg
import Derived.Shelf.Sort.Plain
import Derived.Shelf.Slices.Clone
import Derived.Shelf.Slices.CompactS
import Derived.Shelf.Slices.In.SortNone
import Derived.Sort.OwnSorted
import Derived.Test.YtcbncdigejjcpaaGreatDoorM08
import Derived.Shelf.Strings.Search2
namespace Go.Proofs.YtcbncdigejjcpaaGreatDoor.Tb

abbrev Nm := List UInt8
/-- a command -/
structure Sp where
  nm : Nm
  le : Int
  mo : Int
  fi : Int
  la : Int
  st : Int
  wr : Bool
def zeroSp : Sp := ⟨[], 0, 0, 0, 0, 0, false⟩
/-- its cells -/
def Sp.cl (s : Sp) : List Value := [.string ⟨s.nm.toArray⟩, .int .i64 s.le, .int .i64 s.mo, .int .i64 s.fi, .int .i64 s.la, .int .i64 s.st, .bool s.wr]
def Sp.cs (s : Sp) : Array Value := #[.string ⟨s.nm.toArray⟩, .int .i64 s.le, .int .i64 s.mo, .int .i64 s.fi, .int .i64 s.la, .int .i64 s.st, .bool s.wr]
def allL : List Sp := [
  ⟨[80, 73, 78, 71], 0, 0, 0, 0, 0, false⟩,
  ⟨[69, 67, 72, 79], 1, 1, 0, 0, 0, false⟩,
  ⟨[71, 69, 84], 1, 1, 1, 1, 1, false⟩,
  ⟨[83, 69, 84], 2, 2, 1, 1, 1, true⟩,
  ⟨[68, 69, 76], 1, 31, 1, -1, 1, true⟩,
  ⟨[69, 88, 73, 83, 84, 83], 1, 31, 1, -1, 1, false⟩,
  ⟨[84, 89, 80, 69], 1, 1, 1, 1, 1, false⟩,
  ⟨[65, 80, 80, 69, 78, 68], 2, 2, 1, 1, 1, true⟩,
  ⟨[83, 84, 82, 76, 69, 78], 1, 1, 1, 1, 1, false⟩,
  ⟨[73, 78, 67, 82, 66, 89], 2, 2, 1, 1, 1, true⟩,
  ⟨[77, 71, 69, 84], 1, 31, 1, -1, 1, false⟩,
  ⟨[77, 83, 69, 84], 2, 31, 1, -1, 2, true⟩,
  ⟨[72, 83, 69, 84], 3, 31, 1, 1, 1, true⟩,
  ⟨[72, 71, 69, 84], 2, 2, 1, 1, 1, false⟩,
  ⟨[72, 68, 69, 76], 2, 31, 1, 1, 1, true⟩,
  ⟨[72, 76, 69, 78], 1, 1, 1, 1, 1, false⟩,
  ⟨[72, 65, 76, 76], 1, 1, 1, 1, 1, false⟩,
  ⟨[76, 80, 85, 83, 72], 2, 31, 1, 1, 1, true⟩,
  ⟨[82, 80, 85, 83, 72], 2, 31, 1, 1, 1, true⟩,
  ⟨[76, 80, 79, 80], 1, 1, 1, 1, 1, true⟩,
  ⟨[82, 80, 79, 80], 1, 1, 1, 1, 1, true⟩,
  ⟨[76, 76, 69, 78], 1, 1, 1, 1, 1, false⟩,
  ⟨[76, 73, 78, 68, 69, 88], 2, 2, 1, 1, 1, false⟩,
  ⟨[76, 82, 65, 78, 71, 69], 3, 3, 1, 1, 1, false⟩,
  ⟨[76, 84, 82, 73, 77], 3, 3, 1, 1, 1, true⟩,
  ⟨[83, 65, 68, 68], 2, 31, 1, 1, 1, true⟩,
  ⟨[83, 82, 69, 77], 2, 31, 1, 1, 1, true⟩,
  ⟨[83, 72, 65, 83], 2, 2, 1, 1, 1, false⟩,
  ⟨[83, 65, 76, 76], 1, 1, 1, 1, 1, false⟩,
  ⟨[83, 67, 65, 82, 68], 1, 1, 1, 1, 1, false⟩,
  ⟨[83, 85, 78, 73, 79, 78], 1, 31, 1, -1, 1, false⟩,
  ⟨[83, 73, 78, 84, 69, 82], 1, 31, 1, -1, 1, false⟩,
  ⟨[83, 68, 73, 70, 70], 1, 31, 1, -1, 1, false⟩,
  ⟨[80, 83, 69, 84], 2, 2, 1, 1, 1, true⟩,
  ⟨[80, 71, 69, 84], 1, 1, 1, 1, 1, false⟩,
  ⟨[80, 65, 68, 68], 2, 2, 1, 1, 1, true⟩,
  ⟨[80, 77, 85, 76], 2, 2, 1, 1, 1, true⟩,
  ⟨[80, 84, 85, 82, 78], 2, 2, 1, 1, 1, true⟩,
  ⟨[80, 78, 79, 82, 77], 1, 1, 1, 1, 1, false⟩,
  ⟨[69, 88, 80, 73, 82, 69], 2, 2, 1, 1, 1, true⟩,
  ⟨[84, 84, 76], 1, 1, 1, 1, 1, false⟩,
  ⟨[80, 69, 82, 83, 73, 83, 84], 1, 1, 1, 1, 1, true⟩,
  ⟨[68, 85, 77, 80], 1, 1, 1, 1, 1, false⟩,
  ⟨[82, 69, 83, 84, 79, 82, 69], 3, 3, 1, 1, 1, true⟩,
  ⟨[75, 69, 89, 83, 76, 79, 84], 1, 1, 0, 0, 0, false⟩,
  ⟨[67, 79, 85, 78, 84], 1, 1, 0, 0, 0, false⟩,
  ⟨[75, 69, 89, 83], 2, 2, 0, 0, 0, false⟩]
def rowsL : List Sp := zeroSp :: allL
def flat (l : List Sp) : List Value := l.flatMap Sp.cl
def rowCells : Array Value := (flat rowsL).toArray
def allCells : Array Value := (flat allL).toArray
theorem allL_len : allL.length = 47 := by decide
theorem rowsL_len : rowsL.length = 48 := by decide
theorem flat_len : ∀ l : List Sp, (flat l).length = l.length * 7
  | [] => rfl
  | s :: r => by
    have := flat_len r
    simp only [flat, List.flatMap_cons, List.length_append, List.length_cons] at this ⊢
    rw [this]
    simp [Sp.cl]
    omega
theorem flat_cons (s : Sp) (l : List Sp) : flat (s :: l) = s.cl ++ flat l := rfl
/-- one command's cells among all -/
theorem flat_at : ∀ (l : List Sp) (i : Nat) (h : i < l.length), ((flat l).drop (i * 7)).take 7 = l[i].cl
  | s :: r, 0, _ => by simp [flat_cons, Sp.cl]
  | s :: r, i + 1, h => by
    have := flat_at r i (by simpa using h)
    rw [flat_cons, show (i + 1) * 7 = s.cl.length + i * 7 by simp [Sp.cl]; omega, ← List.drop_drop, List.drop_left, List.getElem_cons_succ]
    exact this
theorem flat_get (l : List Sp) (i j : Nat) (h : i < l.length) (hj : j < 7) : (flat l)[i * 7 + j]? = l[i].cl[j]? := by
  rw [← flat_at l i h, List.getElem?_take_of_lt hj, List.getElem?_drop]
/-- A to Z for a to z -/
def up (c : UInt8) : UInt8 := if 97 ≤ c ∧ c ≤ 122 then c - 32 else c
def great (n : Nm) : Nm := n.map up
/-- where the command of a name stands among the rows -/
def place (g : Nm) : Nat := match allL.findIdx? (fun s => s.nm == g) with
  | some i => i + 1
  | none => 0
theorem place_lt (g : Nm) : place g < rowsL.length := by
  unfold place
  cases h : allL.findIdx? (fun s => s.nm == g) with
  | none => decide
  | some i =>
    have := (List.findIdx?_eq_some_iff_getElem.1 h).1
    show i + 1 < (zeroSp :: allL).length
    rw [List.length_cons]; omega
def spec (g : Nm) : Sp := (rowsL[place g]?).getD zeroSp
def known (g : Nm) : Bool := decide (place g ≠ 0)
theorem spec_eq (g : Nm) : spec g = rowsL[place g]'(place_lt g) := by simp [spec, place_lt g]
theorem great_names : ∀ s ∈ allL, great s.nm = s.nm := by decide
end Go.Proofs.YtcbncdigejjcpaaGreatDoor.Tb

namespace Go.Proofs.YtcbncdigejjcpaaGreatDoor
open Go.Shelf
def Tryz.lays190_ren : Go.Shelf.Ren := ⟨fun | 190 => 56 | 125 => 137 | 258 => 136 | 128 => 202 | 129 => 203 | 302 => 193 | 303 => 194 | 304 => 195 | 305 => 196 | 306 => 197 | 307 => 198 | 308 => 199 | 309 => 200 | 310 => 201 | 333 => 237 | 329 => 238 | 330 => 239 | 334 => 240 | 335 => 241 | 336 => 242 | 344 => 273 | n => n, fun | 31 => 23 | 9 => 9 | 3 => 3 | 46 => 150 | 0 => 0 | 51 => 208 | 53 => 210 | 4 => 4 | 183 => 202 | 182 => 201 | 131 => 163 | 5 => 5 | 218 => 241 | 222 => 245 | 228 => 263 | 229 => 174 | n => n, fun | n => n⟩
theorem Tryz.lays190 : Go.Proofs.Lays.n190 Tryz.prog Tryz.lays190_ren := {
  mixed := by kernel_rfl
  f125 := Tryz.func137.trans (congrArg some (by kernel_rfl))
  f128 := Tryz.func202.trans (congrArg some (by kernel_rfl))
  f129 := Tryz.func203.trans (congrArg some (by kernel_rfl))
  f190 := Tryz.func56.trans (congrArg some (by kernel_rfl))
  f258 := Tryz.func136.trans (congrArg some (by kernel_rfl))
  f302 := Tryz.func193.trans (congrArg some (by kernel_rfl))
  f303 := Tryz.func194.trans (congrArg some (by kernel_rfl))
  f304 := Tryz.func195.trans (congrArg some (by kernel_rfl))
  f305 := Tryz.func196.trans (congrArg some (by kernel_rfl))
  f306 := Tryz.func197.trans (congrArg some (by kernel_rfl))
  f307 := Tryz.func198.trans (congrArg some (by kernel_rfl))
  f308 := Tryz.func199.trans (congrArg some (by kernel_rfl))
  f309 := Tryz.func200.trans (congrArg some (by kernel_rfl))
  f310 := Tryz.func201.trans (congrArg some (by kernel_rfl))
  f329 := Tryz.func238.trans (congrArg some (by kernel_rfl))
  f330 := Tryz.func239.trans (congrArg some (by kernel_rfl))
  f333 := Tryz.func237.trans (congrArg some (by kernel_rfl))
  f334 := Tryz.func240.trans (congrArg some (by kernel_rfl))
  f335 := Tryz.func241.trans (congrArg some (by kernel_rfl))
  f336 := Tryz.func242.trans (congrArg some (by kernel_rfl))
  f344 := Tryz.func273.trans (congrArg some (by kernel_rfl))
  t0 := Tryz.underlying0
  a0 := Tryz.isAgg0
  z0 := Tryz.sizeOf0
  v0 := Tryz.zeroValue0
  t3 := Tryz.underlying3
  a3 := Tryz.isAgg3
  z3 := Tryz.sizeOf3
  v3 := Tryz.zeroValue3
  t4 := Tryz.underlying4
  a4 := Tryz.isAgg4
  z4 := Tryz.sizeOf4
  v4 := Tryz.zeroValue4
  t5 := Tryz.underlying5
  a5 := Tryz.isAgg5
  z5 := Tryz.sizeOf5
  v5 := Tryz.zeroValue5
  t9 := Tryz.underlying9
  a9 := Tryz.isAgg9
  z9 := Tryz.sizeOf9
  v9 := Tryz.zeroValue9
  t31 := Tryz.underlying23
  a31 := Tryz.isAgg23
  z31 := Tryz.sizeOf23
  v31 := Tryz.zeroValue23
  t46 := Tryz.underlying150
  a46 := Tryz.isAgg150
  z46 := Tryz.sizeOf150
  v46 := Tryz.zeroValue150
  t51 := Tryz.underlying208
  a51 := Tryz.isAgg208
  z51 := Tryz.sizeOf208
  v51 := Tryz.zeroValue208
  t53 := Tryz.underlying210
  a53 := Tryz.isAgg210
  z53 := Tryz.sizeOf210
  v53 := Tryz.zeroValue210
  t131 := Tryz.underlying163
  a131 := Tryz.isAgg163
  z131 := Tryz.sizeOf163
  v131 := Tryz.zeroValue163
  t182 := Tryz.underlying201
  a182 := Tryz.isAgg201
  z182 := Tryz.sizeOf201
  v182 := Tryz.zeroValue201
  t183 := Tryz.underlying202
  a183 := Tryz.isAgg202
  z183 := Tryz.sizeOf202
  v183 := Tryz.zeroValue202
  t218 := Tryz.underlying241
  a218 := Tryz.isAgg241
  z218 := Tryz.sizeOf241
  v218 := Tryz.zeroValue241
  t222 := Tryz.underlying245
  a222 := Tryz.isAgg245
  z222 := Tryz.sizeOf245
  v222 := Tryz.zeroValue245
  t228 := Tryz.underlying263
  a228 := Tryz.isAgg263
  z228 := Tryz.sizeOf263
  v228 := Tryz.zeroValue263
  t229 := Tryz.underlying174
  a229 := Tryz.isAgg174
  z229 := Tryz.sizeOf174
  v229 := Tryz.zeroValue174 }
open Go.Sort Go.RowKit in
theorem Tryz.slices_Sort_string (blk off cap : Nat) (ss : List (List UInt8)) (w : World) (hH : Holds encStr w blk off ss.toArray) (hblk : blk < w.heap.size) (hsz : ss.length < 4611686018427387904) :
    Calls Tryz.prog 56 #[.slice (some ⟨blk, off, none⟩) ss.length cap] w fun e w' =>
      e = .returned (.tuple #[]) ∧ ∃ n os, w' = grow (putRow encStr (Sort.ahead w n) blk off (ss.mergeSort fun x y => decide (x ≤ y)).toArray) os := Any.slices_Sort_string Tryz.lays190 blk off cap ss w hH hblk hsz
end Go.Proofs.YtcbncdigejjcpaaGreatDoor

namespace Go.Proofs.YtcbncdigejjcpaaGreatDoor.Dc
open Go.RowKit Go.Sort

/-- a row behind the sort -/
def srtR (l : Row) : Row := l.mergeSort (fun x y => decide (x ≤ y))
theorem srtR_len (l : Row) : (srtR l).length = l.length := by simp [srtR]
/-- slices.Sort -/
theorem sort_any {B : Nat} {w : World} {g m c : Nat} {l : Row} (h : Own B w (.slice (some ⟨g, 0, none⟩) m c) l) (hB : B ≤ w.heap.size) (hl : l.length ≤ 1000000) (hm : m = l.length) :
    Calls Tryz.prog 56 #[.slice (some ⟨g, 0, none⟩) m c] w fun e w' => e = .returned (.tuple #[]) ∧ Hid (Own B w' (.slice (some ⟨g, 0, none⟩) m c) (srtR l) ∧ Below B w w') := by
  subst hm
  rcases h.2 with ⟨e, _⟩ | ⟨g', cap, cur, e, hbase, hb, h1, h2, h3, h4⟩
  · cases e
  · injection e with e e2 e3
    injection e with e
    injection e with e
    subst e e3
    refine (Tryz.slices_Sort_string g 0 c l w (holds_of_block hb (by simpa using h4)) (Array.getElem?_eq_some_iff.1 hb).1 (by omega)).mono ?_
    rintro e w' ⟨rfl, n, os, rfl⟩
    refine ⟨rfl, ?_, (Below.refl B w).grown (grownBy_sorted _) hB (fun k hk => by injection hk with hk; rw [← hk]; exact hbase)⟩
    have := ownsRow_sorted (n := n) (os := os) (ts := srtR l) (srtR_len l) hbase hb h1 h2 h3
    show World.ownsRow _ B 9 1 _ (srtR l).length _
    rw [srtR_len]
    exact this
theorem nm_le_trans {a b c : Nm} (h : a ≤ b) (k : b ≤ c) : a ≤ c := List.le_trans h k
/-- sorted, a row is the one of the same texts that rises -/
theorem srtR_eq {l m : Row} (hp : l.Perm m) (hm : m.Pairwise (fun a b => a < b)) : srtR l = m := by
  have h1 : (srtR l).Pairwise (fun a b => decide (a ≤ b) = true) := List.pairwise_mergeSort (le := fun x y : Nm => decide (x ≤ y)) (fun a b c h k => by
    simp only [decide_eq_true_eq] at h k ⊢
    exact nm_le_trans h k) (fun a b => by
    simp only [Bool.or_eq_true, decide_eq_true_eq]
    exact List.le_total a b) l
  have h2 : m.Pairwise (fun a b => decide (a ≤ b) = true) := hm.imp (fun {a b} h => by
    simp only [decide_eq_true_eq]
    exact List.le_of_lt h)
  refine List.Perm.eq_of_pairwise (fun a b _ _ h k => ?_) h1 h2 ((List.mergeSort_perm l _).trans hp)
  simp only [decide_eq_true_eq] at h k
  exact List.le_antisymm h k

end Go.Proofs.YtcbncdigejjcpaaGreatDoor.Dc

namespace Go.Proofs.YtcbncdigejjcpaaGreatDoor.Dc

/-- a pointer to a block -/
abbrev ptr (b : Nat) : Value := .pointer (some ⟨b, 0, none⟩)
/-- all blocks but its own -/
abbrev Off (O : Nat → Prop) : Nat → Prop := fun k => ¬ O k
/-- its own blocks behind a call: the elder ones, or new ones -/
abbrev Grew (w : World) (O O' : Nat → Prop) : Prop := ∀ k, O' k → O k ∨ w.heap.size ≤ k
/-- the names -/
def namesL {α : Type} (l : Its α) : Row := l.map (·.1)

end Go.Proofs.YtcbncdigejjcpaaGreatDoor.Dc

namespace Go.Proofs.YtcbncdigejjcpaaGreatDoor
open Go.Shelf
def Tryz.lays219_ren : Go.Shelf.Ren := ⟨fun | 219 => 286 | 217 => 276 | 225 => 251 | 224 => 250 | 267 => 295 | 266 => 288 | 314 => 298 | n => n, fun | 9 => 9 | 3 => 3 | 4 => 4 | 5 => 5 | 46 => 150 | 146 => 288 | 51 => 208 | n => n, fun | 1 => 0 | n => n⟩
theorem Tryz.lays219 : Go.Proofs.Lays.n219 Tryz.prog Tryz.lays219_ren := {
  mixed := by kernel_rfl
  f217 := Tryz.func276.trans (congrArg some (by kernel_rfl))
  f219 := Tryz.func286.trans (congrArg some (by kernel_rfl))
  f224 := Tryz.func250.trans (congrArg some (by kernel_rfl))
  f225 := Tryz.func251.trans (congrArg some (by kernel_rfl))
  f266 := Tryz.func288.trans (congrArg some (by kernel_rfl))
  f267 := Tryz.func295.trans (congrArg some (by kernel_rfl))
  f314 := Tryz.func298.trans (congrArg some (by kernel_rfl))
  t3 := Tryz.underlying3
  a3 := Tryz.isAgg3
  z3 := Tryz.sizeOf3
  v3 := Tryz.zeroValue3
  t4 := Tryz.underlying4
  a4 := Tryz.isAgg4
  z4 := Tryz.sizeOf4
  v4 := Tryz.zeroValue4
  t5 := Tryz.underlying5
  a5 := Tryz.isAgg5
  z5 := Tryz.sizeOf5
  v5 := Tryz.zeroValue5
  t9 := Tryz.underlying9
  a9 := Tryz.isAgg9
  z9 := Tryz.sizeOf9
  v9 := Tryz.zeroValue9
  t46 := Tryz.underlying150
  a46 := Tryz.isAgg150
  z46 := Tryz.sizeOf150
  v46 := Tryz.zeroValue150
  t51 := Tryz.underlying208
  a51 := Tryz.isAgg208
  z51 := Tryz.sizeOf208
  v51 := Tryz.zeroValue208
  t146 := Tryz.underlying288
  a146 := Tryz.isAgg288
  z146 := Tryz.sizeOf288
  v146 := Tryz.zeroValue288
  g1 := by kernel_rfl }
open Go.RowKit Go.Lib in
theorem Tryz.stringslite_Index_one (s : ByteArray) (c : UInt8) (w : World) :
    Calls Tryz.prog 286 #[.string s, .string ⟨#[c]⟩] w fun e w' => e = .returned (.int .i64 (Lib.indexByte s.data.toList c)) ∧ w' = w := Any.stringslite_Index_one Tryz.lays219 s c w
end Go.Proofs.YtcbncdigejjcpaaGreatDoor
