/- Bytes in memory, and how they are cut: resp.cut. -/
import Derived.Test.YtjcegiponjpjiabDoorShelf
import Derived.WalkKit
import Derived.Below
import Derived.RowKit
namespace Go.Proofs.YtjcegiponjpjiabDoor
open Go.RowKit

theorem hid {p : Prop} (h : p) : Hid p := h
theorem below_alloc (w : World) (o : Obj) : Below w.heap.size w (w.alloc o) := (Below.refl _ _).alloc (Nat.le_refl _) o
/-- a block of bytes -/
def Tag (w : World) (b : Nat) : Prop := ∃ cur fr, w.heap[b]? = some (.cells cur 5 fr)
/-- where a text's bytes lie -/
def At (w : World) (p : Option Addr) (s : List UInt8) : Prop := s ≠ [] → ∃ b o, p = some ⟨b, o, none⟩ ∧ (∀ i (h : i < s.length), w.cell? ⟨b, o + i, none⟩ = some (.int .u8 (s[i].toNat : Int))) ∧ Tag w b
theorem At.nil (w : World) (p : Option Addr) : At w p [] := fun h => absurd rfl h
theorem At.take {w : World} {p : Option Addr} {s : List UInt8} (h : At w p s) (n : Nat) : At w p (s.take n) := fun hne => by
  obtain ⟨b, o, rfl, hc, ht⟩ := h (fun e => hne (by rw [e]; simp))
  exact ⟨b, o, rfl, fun i hi => by rw [hc i (by simp at hi; omega)]; simp, ht⟩
theorem At.drewN {w : World} {p : Option Addr} {s : List UInt8} (h : At w p s) (n : Nat) : At (w.drewN n) p s := h
theorem At.below {w w' : World} {p : Option Addr} {s : List UInt8} (h : At w p s) (hb : Below w.heap.size w w') : At w' p s := fun hne => by
  obtain ⟨b, o, rfl, hc, cur, fr, ht⟩ := h hne
  exact ⟨b, o, rfl, fun i hi => by rw [hb.cell (block_lt_of_cell (hc i hi))]; exact hc i hi, cur, fr, (hb.block b (Array.getElem?_eq_some_iff.1 ht).1).trans ht⟩
theorem At.drop {w : World} {b o : Nat} {s : List UInt8} (h : At w (some ⟨b, o, none⟩) s) (n : Nat) : At w (some ((⟨b, o, none⟩ : Addr).add n)) (s.drop n) := fun hne => by
  obtain ⟨b', o', e, hc, ht⟩ := h (fun e => hne (by rw [e]; simp))
  injection e with e
  injection e with e1 e2
  subst e1
  subst e2
  refine ⟨b, o + n, by rw [Go.WideShapes.add_plain], fun i hi => ?_, ht⟩
  have := hc (n + i) (by simp at hi; omega)
  rw [← Nat.add_assoc] at this
  rw [this]
  simp
theorem At.void {w : World} {s : List UInt8} (h : At w none s) : s = [] := Classical.byContradiction fun e => by
  obtain ⟨_, _, h, _⟩ := h e
  cases h
theorem At.plain {w : World} {p : Option Addr} {s : List UInt8} (h : At w p s) (hne : s ≠ []) : ∃ b o, p = some ⟨b, o, none⟩ := by
  obtain ⟨b, o, e, _⟩ := h hne
  exact ⟨b, o, e⟩
set_option maxHeartbeats 1000000 in
set_option maxRecDepth 100000 in
theorem cut_some (a : Addr) (m cap n : Nat) (w : World) (hn : n ≤ m) (hc : m ≤ cap) :
    Calls Tryd.prog 24 #[.slice (some a) m cap, .int .i64 n] w fun e w' => (∃ q, e = .returned (.tuple #[.slice (some a) n n, .slice q (m - n) (m - n)]) ∧ (m = n ∨ q = some (a.add n))) ∧ w' = w.drew := by
  go_enter Tryd.func24, Tryd.ntmps24
  go_wp2
  go_region
  all_goals go_wp2
  all_goals go_ret2
  all_goals
    first
    | exact ⟨⟨_, rfl⟩, rfl⟩
    | exact ⟨rfl, rfl⟩
    | exact ⟨⟨_, rfl, .inr rfl⟩, rfl⟩
set_option maxHeartbeats 1000000 in
set_option maxRecDepth 100000 in
theorem cut_none (cap : Nat) (w : World) :
    Calls Tryd.prog 24 #[.slice none 0 cap, .int .i64 0] w fun e w' => (∃ q, e = .returned (.tuple #[.slice none 0 0, .slice q 0 0])) ∧ w' = w.drew := by
  go_enter Tryd.func24, Tryd.ntmps24
  go_wp2
  go_region
  all_goals go_wp2
  all_goals go_ret2
  all_goals exact ⟨⟨_, rfl⟩, rfl⟩
/-- cut -/
theorem cut_any (p : Option Addr) (s : List UInt8) (cap n : Nat) (w : World) (hA : At w p s) (hn : n ≤ s.length) (hc : s.length ≤ cap) :
    Calls Tryd.prog 24 #[.slice p s.length cap, .int .i64 n] w fun e w' => (∃ q, e = .returned (.tuple #[.slice p n n, .slice q (s.length - n) (s.length - n)]) ∧ At w q (s.drop n)) ∧ w' = w.drew := by
  cases p with
  | none =>
    obtain rfl := hA.void
    have : n = 0 := by simpa using hn
    subst this
    refine (cut_none cap w).mono ?_
    rintro e w' ⟨⟨q, rfl⟩, rfl⟩
    exact ⟨⟨q, rfl, At.nil _ _⟩, rfl⟩
  | some a =>
    refine (cut_some a s.length cap n w hn hc).mono ?_
    rintro e w' ⟨⟨q, rfl, hq⟩, rfl⟩
    refine ⟨⟨q, rfl, ?_⟩, rfl⟩
    by_cases h : s.length = n
    · rw [List.drop_eq_nil_of_le (by omega)]; exact At.nil _ _
    · rcases hq with hq | rfl
      · exact absurd hq h
      · obtain ⟨b, o, e⟩ := hA.plain (fun e => h (by rw [e] at hn ⊢; simp at hn; simp [hn]))
        injection e with e
        subst e
        exact hA.drop n

/-- the numbers of bytes -/
def nums (s : List UInt8) : List Int := s.map fun b => (b.toNat : Int)
theorem bytesOf_nums (s : List UInt8) : Lib.bytesOf (nums s) = s := by
  unfold Lib.bytesOf nums
  rw [List.map_map]
  conv => rhs; rw [← List.map_id s]
  refine List.map_congr_left fun b _ => ?_
  simp
theorem At.cells {w : World} {a : Addr} {s : List UInt8} (h : At w (some a) s) : ∀ i, i < s.length → w.cell? (a.add i) = some (.int .u8 ((nums s).getD i 0)) := fun i hi => by
  obtain ⟨b, o, e, hc, _⟩ := h (fun e => by rw [e] at hi; simp at hi)
  injection e with e
  subst e
  rw [Go.WideShapes.add_plain, hc i hi]
  simp [nums, List.getD, hi]
/-- where a byte stands first -/
theorem index_any (p : Option Addr) (s : List UInt8) (cap : Nat) (c : UInt8) (w : World) (hA : At w p s) (h0 : p = none → cap = 0) :
    Calls Tryd.prog 23 #[.slice p s.length cap, .int .u8 (c.toNat : Int)] w fun e w' => e = .returned (.int .i64 (Lib.indexByte s c)) ∧ w' = w := by
  cases p with
  | none =>
    obtain rfl := hA.void
    obtain rfl := h0 rfl
    exact Tryd.bytes_IndexByte_nil (c.toNat : Int) w
  | some a =>
    have := Tryd.bytes_IndexByte_at a s.length cap (nums s) (c.toNat : Int) w (by simp [nums]) hA.cells
    rw [bytesOf_nums] at this
    simpa using this

end Go.Proofs.YtjcegiponjpjiabDoor
