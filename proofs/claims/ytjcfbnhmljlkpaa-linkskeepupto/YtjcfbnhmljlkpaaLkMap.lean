/- Links in a map by both ends: what is read of it, and written to it. -/
import Derived.Test.YtjcfbnhmljlkpaaLkC
import Derived.Maps.RangeWalk
import Derived.Maps.OwnSet
import Derived.WideKeyPair
import Derived.DeepKeys4
namespace Go.Proofs.Ytjcfbnhmljlkpaa
open Go.RowKit Go.Maps

theorem arrK : WideMaps.ArrKey Try.prog 41 3 2 := ⟨Try.underlying41, by kernel_rfl, by kernel_rfl, by kernel_rfl⟩
theorem keyed : Keyed Try.prog 41 := Keyed.of_law arrK.law
theorem szK : ∃ m, Try.prog.types.size = m + 1 := ⟨Try.prog.types.size - 1, by kernel_rfl⟩
abbrev key (f t : Int) : Value := .agg #[.int .i64 f, .int .i64 t]
def kl (f t : Int) : Lit := .string (keyBytes [.int .i64 f, .int .i64 t])
set_option maxRecDepth 100000 in
theorem key_of {f t : Int} (h : IE f t) : keyOf Try.prog 41 (key f t) = some (kl f t) := WideMaps.keyOf_pair arrK Try.underlying3 szK h.1 h.2
set_option maxRecDepth 100000 in
theorem key_inv {v : Value} {l : Lit} (h : keyOf Try.prog 41 v = some l) : ∃ f t, v = key f t ∧ IE f t ∧ l = kl f t := by
  obtain ⟨xs, L, rfl, hL, rfl⟩ := keyOf_top arrK.wide h
  unfold Program.keyLits at hL
  simp only [arrK.hu] at hL
  split at hL
  · rename_i hl
    rw [arrK.size] at hl
    obtain ⟨m, hm⟩ := szK
    rw [hm] at hL
    rw [show List.range 2 = [0, 1] from rfl, List.mapM_cons, List.mapM_cons, List.mapM_nil] at hL
    simp only [arrK.one] at hL
    obtain ⟨ys⟩ := xs
    match ys, hl with
    | [c0, c1], _ =>
      simp only [bind, Option.bind_eq_some_iff, pure, Option.some.injEq, Option.map_eq_some_iff] at hL
      obtain ⟨L', ⟨x0, h0, _, ⟨x1, h1, _, rfl, rfl⟩, rfl⟩, rfl⟩ := hL
      simp only [Nat.zero_mul, Nat.one_mul, List.drop_zero, List.drop_succ_cons, List.take_succ_cons, List.take_zero] at h0 h1
      have two : ∀ {c : Value} {x : List Lit}, Try.prog.keyLits (m + 1) 3 [c] = some x → ∃ a, c = .int .i64 a ∧ (Lit.int .i64 a).wf = true ∧ x = [.int .i64 a] := by
        intro c x h
        unfold Program.keyLits at h
        simp only [Try.underlying3] at h
        cases c <;> simp at h
        obtain ⟨⟨rfl, hw⟩, rfl⟩ := h
        exact ⟨_, rfl, hw, rfl⟩
      obtain ⟨a, rfl, ha, rfl⟩ := two h0
      obtain ⟨b, rfl, hb, rfl⟩ := two h1
      exact ⟨a, b, rfl, ⟨ha, hb⟩, rfl⟩
  · cases hL
set_option maxRecDepth 100000 in
theorem kl_inj {f t g u : Int} (h : IE f t) (h' : IE g u) (e : kl f t = kl g u) : f = g ∧ t = u := by
  have := keyed.inj (key_of h) (e ▸ key_of h')
  simp [key] at this
  exact this
theorem kl_key (f t : Int) : WideAt.IsKeyLit (kl f t) := trivial
/-- any value is read as itself -/
def Rv (v : Value) : Option (DataW Value × List MemPlace) := some (.held v, [])
theorem rv_inv {v u : Value} {ps : List MemPlace} (h : Rv v = some (.held u, ps)) : v = u := by
  simp only [Rv, Option.some.injEq, Prod.mk.injEq, DataW.held.injEq] at h
  exact h.1
/-- a row of letters on one link: where the first and the last lie, and how many there are -/
abbrev rowC (a l : Option Addr) (n : Int) : Array Value := #[.pointer a, .pointer l, .int .i64 n]
abbrev zrow : Value := .agg (rowC none none 0)
set_option maxRecDepth 100000 in
theorem zeroRow (w : World) : (zeroValue 63).run Try.prog w = .ok zrow w := by kernel_rfl
abbrev OM (w : World) (m n : Nat) (D : DataW Value) : Prop := w.ownsMap Try.prog 41 Rv m n D
set_option maxRecDepth 100000 in
theorem OM.look {w : World} {m n : Nat} {D : DataW Value} (h : OM w m n D) {f t : Int} (hi : IE f t) {v : Value} (hv : D.atKey (kl f t) (.held zrow) = .held v) :
    (Instr.lookup 51 (.map (some m)) (key f t) false).run Try.prog w = .ok v w := by
  obtain ⟨u, ps, hrun, hu⟩ := World.ownsMap.lookup h keyed Try.underlying51 (zeroRow w) (zd := .held zrow) (zp := []) rfl (key_of hi)
  rw [hv] at hu
  rw [hrun, rv_inv hu]
set_option maxRecDepth 100000 in
theorem OM.store {w : World} {m n : Nat} {D : DataW Value} (h : OM w m n D) {f t : Int} (hi : IE f t) (v : Value) (hn : n < maxLen) :
    ∃ w', (Instr.mapUpdate 51 (.map (some m)) (key f t) v).run Try.prog w = .ok () w' ∧ OM w' m (n + 1) (D.put (kl f t) (.held v)) ∧ w.grownBy w' (some m) :=
  World.ownsMap.update h keyed Try.underlying51 hn (key_of hi) (ps := []) rfl
set_option maxRecDepth 100000 in
theorem OM.drop {w : World} {m n : Nat} {D : DataW Value} (h : OM w m n D) {f t : Int} (hi : IE f t) (ty : TypeId) :
    ∃ w', (Builtin.delete_ #[51, 41] ty #[.map (some m), key f t]).run Try.prog w = .ok (.tuple #[]) w' ∧ OM w' m n (D.del (kl f t)) ∧ w.grownBy w' (some m) := by
  obtain ⟨w', h1, h2, h3⟩ := World.ownsMap.drop h keyed Try.underlying51 (key_of hi) ty
  exact ⟨w', h1, h2, h3.grown⟩

end Go.Proofs.Ytjcfbnhmljlkpaa
