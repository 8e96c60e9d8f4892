/- What the dict's methods do (values: numbers), in whatever blocks it lies: what the laws lean on. -/
import Derived.Test.YtphegggekcjenaaDoorRefPut
import Derived.Deep.RegionLaw
namespace Go.Proofs.YtphegggekcjenaaDoor
open Go.RowKit

/-- a pointer to a block -/
abbrev ptr (b : Nat) : Value := .pointer (some ⟨b, 0, none⟩)
/-- all blocks but its own -/
abbrev Off (O : Nat → Prop) : Nat → Prop := fun k => ¬ O k
/-- its own blocks behind a call: the elder ones, or new ones -/
abbrev Grew (w : World) (O O' : Nat → Prop) : Prop := ∀ k, O' k → O k ∨ w.heap.size ≤ k
structure MethI (V : World → Prop) (B : Nat) (Dq : World → Nat → (Nat → Prop) → DM Int → Prop) : Prop where
  turn : ∀ {w w' : World} {b : Nat} {O : Nat → Prop} {D : DM Int}, Dq w b O D → (∀ k, k < B ∨ O k → w'.heap[k]? = w.heap[k]?) → w.heap.size ≤ w'.heap.size → Dq w' b O D
  base : ∀ {w : World} {b : Nat} {O : Nat → Prop} {D : DM Int}, Dq w b O D → B ≤ w.heap.size
  env : ∀ {w w' : World}, V w → B ≤ w.heap.size → (∀ k, k < B → w'.heap[k]? = w.heap[k]?) → V w'
  lt : ∀ {w : World} {b : Nat} {O : Nat → Prop} {D : DM Int}, Dq w b O D → ∀ k, O k → k < w.heap.size
  srt : ∀ {w : World} {b : Nat} {O : Nat → Prop} {D : DM Int}, Dq w b O D → Srt D.L
  nms : ∀ {w : World} {b : Nat} {O : Nat → Prop} {D : DM Int}, Dq w b O D → ∀ x ∈ D.L, x.1.length ≤ 140737488351232
  new : ∀ w, V w → B ≤ w.heap.size → Calls Tryd.prog 12 #[] w fun e w' => ∃ b, e = .returned (ptr b) ∧ Hid (∃ O, Dq w' b O newD ∧ (∀ k, O k → w.heap.size ≤ k) ∧ Below w.heap.size w w')
  put : ∀ (b : Nat) (O : Nat → Prop) (D : DM Int) (n : Nm) (v : Int) (w : World), Dq w b O D → Small 100000 D → n.length ≤ 140737488351232 → Calls Tryd.prog 22 #[ptr b, txt n, .int .i64 v] w fun e w' => e = .returned (.bool (hasL n D.L)) ∧ Hid (∃ O', Dq w' b O' (putD D n v) ∧ Grew w O O' ∧ Keep (Off O) w w')
  del : ∀ (b : Nat) (O : Nat → Prop) (D : DM Int) (n : Nm) (w : World), Dq w b O D → Small 100000 D → n.length ≤ 140737488351232 → Calls Tryd.prog 23 #[ptr b, txt n] w fun e w' => e = .returned (.bool (hasL n D.L)) ∧ Hid (∃ O', Dq w' b O' (delD D n) ∧ Grew w O O' ∧ Keep (Off O) w w')
  get : ∀ (b : Nat) (O : Nat → Prop) (D : DM Int) (n : Nm) (w : World), Dq w b O D → Small 100000 D → n.length ≤ 140737488351232 → Calls Tryd.prog 19 #[ptr b, txt n] w fun e w' => e = .returned (.tuple #[.int .i64 ((getL n D.L).getD 0), .bool (getL n D.L).isSome]) ∧ Hid (Below w.heap.size w w')
  step : ∀ (b : Nat) (O : Nat → Prop) (D : DM Int) (w : World), Dq w b O D → Small 100000 D → Calls Tryd.prog 15 #[ptr b] w fun e w' => e = .returned (.bool (stepB D)) ∧ Hid (∃ O', Dq w' b O' (stepD D) ∧ Grew w O O' ∧ Keep (Off O) w w')
  length : ∀ (b : Nat) (O : Nat → Prop) (D : DM Int) (w : World), Dq w b O D → Calls Tryd.prog 18 #[ptr b] w fun e w' => e = .returned (.int .i64 D.L.length) ∧ Hid (Below w.heap.size w w')
  rooms : ∀ (b : Nat) (O : Nat → Prop) (D : DM Int) (w : World), Dq w b O D → Small 100000 D → Calls Tryd.prog 24 #[ptr b] w fun e w' => e = .returned (.tuple #[.int .i64 D.rooms, .int .i64 D.left]) ∧ Hid (Below w.heap.size w w')
  names : ∀ (b : Nat) (O : Nat → Prop) (D : DM Int) (w : World), Dq w b O D → Small 100000 D → Calls Tryd.prog 17 #[ptr b] w fun e w' => ∃ q c, e = .returned (.slice q D.L.length c) ∧ Hid (Tl (fun k => w.heap.size ≤ k) w' (.slice q D.L.length c) (namesL D.L) ∧ Below w.heap.size w w')
  clone : ∀ (b : Nat) (O : Nat → Prop) (D : DM Int) (w : World), Dq w b O D → Small 100000 D → Calls Tryd.prog 20 #[ptr b] w fun e w' => ∃ c, e = .returned (ptr c) ∧ Hid (∃ O', Dq w' c O' D ∧ (∀ k, O' k → w.heap.size ≤ k) ∧ Below w.heap.size w w')
theorem MethI.below {V : World → Prop} {B : Nat} {Dq : World → Nat → (Nat → Prop) → DM Int → Prop} (M : MethI V B Dq) {w w' : World} {b : Nat} {O : Nat → Prop} {D : DM Int} (h : Dq w b O D) (k : Below w.heap.size w w') : Dq w' b O D := M.turn h (fun i hi => k.block i (by rcases hi with hi | hi; have := M.base h; omega; exact M.lt h i hi)) k.size
theorem MethI.envB {V : World → Prop} {B : Nat} {Dq : World → Nat → (Nat → Prop) → DM Int → Prop} (M : MethI V B Dq) {w w' : World} {n : Nat} (h : V w) (hB : B ≤ w.heap.size) (hn : B ≤ n) (k : Below n w w') : V w' := M.env h hB (fun i hi => k.block i (by omega))
/-- a call -/
structure OpI where
  kind : Int
  v : Int
  name : Nm
abbrev opV (o : OpI) : Value := .agg #[.int .i64 o.kind, .int .i64 o.v, txt o.name]
def doD (D : DM Int) (o : OpI) : DM Int := if o.kind = 0 then putD D o.name o.v else if o.kind = 1 then delD D o.name else if o.kind = 3 then stepD D else D
theorem infoO (x y z : Value) : (Tryd.prog.info? 35).map (·.size) = some (#[x, y, z] : Array Value).size := by
  show _ = some 3
  kernel_rfl
/-- the three blocks that does begins with -/
abbrev boxed3 (w : World) (sl : Value) (r k : Nat) (o : OpI) : World := ((w.alloc (.cells #[sl, .int .i64 r, .int .i64 k] 26)).alloc (.cells #[.int .i64 o.kind, .int .i64 o.v, txt o.name] 35)).alloc (.cells #[.slice none 0 0, .int .i64 0, .int .i64 0] 26)
theorem boxed3_size (w : World) (sl : Value) (r k : Nat) (o : OpI) : (boxed3 w sl r k o).heap.size = w.heap.size + 3 := by simp
theorem boxed3_below (w : World) (sl : Value) (r k : Nat) (o : OpI) : Below w.heap.size w (boxed3 w sl r k o) := (alloc2_below w _ _).alloc (by simp; omega) _
theorem boxed3_op (w : World) (sl : Value) (r k : Nat) (o : OpI) : (boxed3 w sl r k o).heap[w.heap.size + 1]? = some (.cells #[.int .i64 o.kind, .int .i64 o.v, txt o.name] 35 (0, 0)) := (heap_alloc_old _ _ (by simp)).trans (alloc2_new w _ _)
theorem boxed3_res (w : World) (sl : Value) (r k : Nat) (o : OpI) : (boxed3 w sl r k o).heap[w.heap.size + 2]? = some (.cells #[.slice none 0 0, .int .i64 0, .int .i64 0] 26 (0, 0)) := by
  have := heap_alloc_new ((w.alloc (.cells #[sl, .int .i64 r, .int .i64 k] 26)).alloc (.cells #[.int .i64 o.kind, .int .i64 o.v, txt o.name] 35)) (.cells #[.slice none 0 0, .int .i64 0, .int .i64 0] 26)
  rwa [show ((w.alloc (.cells #[sl, .int .i64 r, .int .i64 k] 26)).alloc (.cells #[.int .i64 o.kind, .int .i64 o.v, txt o.name] 35)).heap.size = w.heap.size + 2 by simp] at this
theorem op_facts {w : World} {b : Nat} {x y z : Value} (h : w.heap[b]? = some (.cells #[x, y, z] 35 (0, 0))) :
    w.cell? ⟨b, 0, none⟩ = some x ∧ w.cell? ⟨b, 1, none⟩ = some y ∧ w.cell? ⟨b, 2, none⟩ = some z := ⟨cell_of_row w b 0 _ _ _ h, cell_of_row w b 1 _ _ _ h, cell_of_row w b 2 _ _ _ h⟩

end Go.Proofs.YtphegggekcjenaaDoor
