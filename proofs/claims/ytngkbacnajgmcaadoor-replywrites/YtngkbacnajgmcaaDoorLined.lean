/- One reply, by its first byte: what read tells. -/
import Derived.Test.YtngkbacnajgmcaaDoorReadList
import Derived.Test.YtngkbacnajgmcaaDoorBulk
namespace Go.Proofs.YtngkbacnajgmcaaDoor
open Go.RowKit

/-- what reads a list within so many lists -/
def subOf (k : Nat) : Nat → List UInt8 → ResL := match k with
  | 0 => fun _ _ => .bad 41
  | j + 1 => rdAll (rd j)
theorem rd_eq (k : Nat) (s : List UInt8) : rd k s = rdLine (subOf k) k s := by cases k <;> rfl
theorem rd_cut {k : Nat} {s : List UInt8} {y : Int} (h : cutLn s k = .bad y) : rd k s = .bad y := by rw [rd_eq]; unfold rdLine; rw [h]
theorem rd_line {k : Nat} {s text rest : List UInt8} {c : UInt8} (h : cutLn s k = .ok (c :: text) rest) : rd k s = rdKind (subOf k) c text rest := by rw [rd_eq]; unfold rdLine; rw [h]
theorem kind43 {sub : Nat → List UInt8 → ResL} {t s : List UInt8} : rdKind sub 43 t s = if Pl t then .got (.mk 1 0 t []) s else .bad 41 := rfl
theorem kind45 {sub : Nat → List UInt8 → ResL} {t s : List UInt8} : rdKind sub 45 t s = if Pl t then .got (.mk 2 0 t []) s else .bad 41 := rfl
theorem kind58 {sub : Nat → List UInt8 → ResL} {t s : List UInt8} : rdKind sub 58 t s = match num t (-9223372036854775808) 9223372036854775807 with | some n => .got (.mk 3 n [] []) s | none => .bad 41 := rfl
theorem kind36 {sub : Nat → List UInt8 → ResL} {t s : List UInt8} : rdKind sub 36 t s = rdBulk t s := rfl
theorem kind42 {sub : Nat → List UInt8 → ResL} {t s : List UInt8} : rdKind sub 42 t s = match rdList sub t s with | .got l rest' => .got (.mk 6 0 [] l) rest' | .bad e => .bad e := rfl
theorem may_cases {c : UInt8} {k : Nat} (h : may c k = true) : c = 43 ∨ c = 45 ∨ c = 58 ∨ c = 36 ∨ (c = 42 ∧ k ≠ 0) := by
  unfold may at h
  simp only [Bool.or_eq_true, Bool.and_eq_true, beq_iff_eq, bne_iff_ne] at h
  rcases h with (((h | h) | h) | h) | h
  · exact .inl h
  · exact .inr (.inl h)
  · exact .inr (.inr (.inl h))
  · exact .inr (.inr (.inr (.inl h)))
  · exact .inr (.inr (.inr (.inr h)))
theorem flat_rp {P : Nat → Prop} {w : World} {k : Nat} {kd n : Int} {t : List UInt8} (h1 : -9223372036854775808 ≤ kd) (h2 : kd ≤ 9223372036854775807) (h3 : -9223372036854775808 ≤ n) (h4 : n ≤ 9223372036854775807) (h5 : t.length ≤ 9223372036854775807) : Rp P w (k + 1) (.agg #[.int .i64 kd, .int .i64 n, .string ⟨t.toArray⟩, .slice none 0 0]) (.mk kd n t []) :=
  ⟨none, 0, rfl, ⟨h1, h2, h3, h4, h5, by simp [Rep.list]⟩, RowOf.nil _ _ _ _⟩
theorem rdBulk_flat {t s rest : List UInt8} {r : Rep} (h : rdBulk t s = .got r rest) : ∃ (kd : Int) (x : List UInt8), r = .mk kd 0 x [] ∧ (kd = 4 ∨ kd = 5) ∧ x.length ≤ 65536 := by
  unfold rdBulk at h
  split at h
  · injection h with h _; exact ⟨5, [], h.symm, .inr rfl, by simp⟩
  · split at h
    · cases h
    · rename_i n hn
      have hr := num_rng hn
      split at h
      · cases h
      · split at h
        · split at h
          · injection h with h _
            exact ⟨4, _, h.symm, .inl rfl, by simp; omega⟩
          · cases h
        · cases h
theorem line_rest (c : UInt8) (text : List UInt8) (W : World) : (Instr.slice 9 (.string ⟨(c :: text).toArray⟩) (some (.int .i64 1)) none none).run Tryd.prog W = .ok (.string ⟨text.toArray⟩) W := str_from (c :: text) 1 W (by simp)
theorem line_head (c : UInt8) (text : List UInt8) (W : World) : (Instr.index 9 (.string ⟨(c :: text).toArray⟩) (.int .i64 0)).run Tryd.prog W = .ok (.int .u8 (c.toNat : Int)) W := by
  rw [run_index_string (P := Tryd.prog) W 9 _ .i64 0 Tryd.underlying9, dif_pos ⟨by decide, by simp [ByteArray.size]⟩]
  rfl
/-- what is known once a line is cut -/
structure Lined (w : World) (k : Nat) (s text rest : List UInt8) (L : ByteArray) (c : Int) : Prop where
  tail : ∀ W, (Instr.slice 9 (.string L) (some (.int .i64 1)) none none).run Tryd.prog W = .ok (.string ⟨text.toArray⟩) W
  head : ∀ W, (Instr.index 9 (.string L) (.int .i64 0)).run Tryd.prog W = .ok (.int .u8 c) W
  cut : Hid (∀ o, Calls Tryd.prog 31 #[.string ⟨s.toArray⟩, .int .i64 k] (w.alloc o) fun e w' => e = .returned (.tuple #[.string L, .string ⟨rest.toArray⟩, .int .i64 0]) ∧ Hid (Below (w.alloc o).heap.size (w.alloc o) w'))
  text : text.length ≤ 512
  rest : rest.length ≤ 281474976710656
  room : k ≤ 100
  env : Env w
/-- what read tells of a line -/
def Told (w : World) (k : Nat) (s : List UInt8) (res : Res) : Prop :=
  Calls Tryd.prog 20 #[.string ⟨s.toArray⟩, .int .i64 k] w fun e w' => ∃ (a0 a1 : Int) (a2 : ByteArray) (p : Option Addr) (m c : Nat) (rest : ByteArray) (x : Int), e = .returned (.tuple #[.agg #[.int .i64 a0, .int .i64 a1, .string a2, .slice p m c], .string rest, .int .i64 x]) ∧
    Hid (ROut w.heap.size w' (k + 1) (.agg #[.int .i64 a0, .int .i64 a1, .string a2, .slice p m c]) rest x res ∧ Below w.heap.size w w')

end Go.Proofs.YtngkbacnajgmcaaDoor
