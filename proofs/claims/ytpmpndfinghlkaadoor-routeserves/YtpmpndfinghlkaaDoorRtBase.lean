/- What the calls read of the package variables; texts under way; numbers as texts and back. -/
import Derived.Test.YtpmpndfinghlkaaDoorShelf
import Derived.Test.YtpmpndfinghlkaaDoorCore
import Derived.WalkKit
import Derived.Below
import Derived.RowKit
import Derived.Lib.AppendStr
import Derived.Lib.ItoaNum
import Derived.Lib.ItoaMem
import Derived.Lib.AtoiAll
import Derived.Laws.OwnMore
import Derived.Laws.Strings2
namespace Go.Proofs.YtpmpndfinghlkaaDoor
open Go.RowKit

/-- what the calls read of the package-level variables -/
structure Env (w : World) : Prop where
  room : 8 ≤ w.heap.size
  pow : Lib.TabIs Tryd.prog w "internal/strconv.uint64pow10" .u64 Lib.pow10Tab
  syn : ∃ tp p, w.var? Tryd.prog "strconv.ErrSyntax" = some #[.iface tp p]
  ran : ∃ tp p, w.var? Tryd.prog "strconv.ErrRange" = some #[.iface tp p]
theorem gPow : Tryd.prog.globalNamed "internal/strconv.uint64pow10" = some 1 := by kernel_rfl
theorem gSyn : Tryd.prog.globalNamed "strconv.ErrSyntax" = some 4 := by kernel_rfl
theorem gRan : Tryd.prog.globalNamed "strconv.ErrRange" = some 5 := by kernel_rfl
theorem Env.keep {w w' : World} (h : Env w) (hs : w.heap.size ≤ w'.heap.size) (hb : ∀ k, k < 8 → w'.heap[k]? = w.heap[k]?) : Env w' := by
  refine ⟨Nat.le_trans h.room hs, ?_, ?_, ?_⟩
  · have := h.pow
    unfold Lib.TabIs World.var? at this ⊢
    rw [gPow] at this ⊢
    simp only [Option.bind_some] at this ⊢
    rw [hb 1 (by decide)]; exact this
  · have := h.syn
    unfold World.var? at this ⊢
    rw [gSyn] at this ⊢
    simp only [Option.bind_some] at this ⊢
    rw [hb 4 (by decide)]; exact this
  · have := h.ran
    unfold World.var? at this ⊢
    rw [gRan] at this ⊢
    simp only [Option.bind_some] at this ⊢
    rw [hb 5 (by decide)]; exact this
theorem Env.below {w w' : World} {n : Nat} (h : Env w) (hb : Below n w w') (hn : 8 ≤ n) : Env w' := h.keep hb.size fun k hk => hb.block k (by omega)
theorem info5 : (Tryd.prog.info? 5).map (fun i => (i.zero, i.size, i.bytes)) = some (some (.int .u8 0), 1, 1) := by kernel_rfl
theorem owns_below {W W' : World} {base : Nat} {e : TypeId} {size : Nat} {v : Value} {n : Nat} {xs : List Value} (h : W.ownsRow base e size v n xs) (hb : Below W.heap.size W W') : W'.ownsRow base e size v n xs := by
  refine ⟨h.1, ?_⟩
  rcases h.2 with h | ⟨g, cap, cur, h1, h2, h3, h4⟩
  · exact .inl h
  · exact .inr ⟨g, cap, cur, h1, h2, (hb.block g (Array.getElem?_eq_some_iff.1 h3).1).trans h3, h4⟩
/-- a text under way, in a row of the call's own -/
structure Txt (B : Nat) (w1 : World) (W : World) (v : Value) (T : List UInt8) : Prop where
  own : W.ownsRow B 5 1 v T.length (Lib.byteCells T)
  bel : Below B w1 W
  size : B ≤ W.heap.size
/-- blocks that hold no bytes stay as they are -/
def Kpt (W W' : World) : Prop := ∀ (g : Nat) (cur : Array Value) (t : TypeId) (fr : Nat × Nat), t ≠ 5 → W.heap[g]? = some (.cells cur t fr) → W'.heap[g]? = some (.cells cur t fr)
theorem Kpt.of_below {n : Nat} {W W' : World} (hb : Below n W W') (hn : W.heap.size ≤ n) : Kpt W W' := fun g _ _ _ _ h => (hb.block g (Nat.lt_of_lt_of_le (Array.getElem?_eq_some_iff.1 h).1 hn)).trans h
theorem Kpt.trans {A B C : World} (h1 : Kpt A B) (h2 : Kpt B C) : Kpt A C := fun g cur t fr ht h => h2 g cur t fr ht (h1 g cur t fr ht h)
theorem Kpt.grown {B n : Nat} {W W' : World} {v : Value} {xs : List Value} (ho : W.ownsRow B 5 1 v n xs) (hgr : W.grownBy W' v.ownBlock) : Kpt W W' := fun g cur t fr ht h => by
  have hlt := (Array.getElem?_eq_some_iff.1 h).1
  have hne : some g ≠ v.ownBlock := by
    rcases ho.2 with ⟨rfl, _⟩ | ⟨g', cap, cur', rfl, _, hg', _⟩
    · simp [Value.ownBlock]
    · intro e
      simp only [Value.ownBlock, Option.some.injEq] at e
      subst e
      rw [hg'] at h
      injection h with h
      injection h with _ h
      exact absurd h.symm ht
  exact (hgr.block g hlt hne).trans h
theorem Txt.push {B : Nat} {w1 W : World} {v : Value} {T : List UInt8} (h : Txt B w1 W v T) (c : UInt8) (hT : T.length ≤ 140737488350000) :
    ∃ v' W', (Builtin.append_ #[58, 58] 58 #[v, .slice (some ⟨W.heap.size, 0, none⟩) 1 1]).run Tryd.prog (W.alloc (.cells #[.int .u8 (c.toNat : Int)] 5)) = .ok v' W' ∧ Txt B w1 W' v' (T ++ [c]) ∧ Kpt W W' := by
  obtain ⟨i0, hi, hz0, hz1, hz2⟩ := info_parts info5
  have hs := h.size
  have hown' := owns_below h.own (below_alloc W (.cells #[.int .u8 (c.toNat : Int)] 5))
  obtain ⟨v', w', hrun, ho, hgr, _⟩ := run_append_own (P := Tryd.prog) (W.alloc (.cells #[.int .u8 (c.toNat : Int)] 5)) B 58 58 5 i0 (.int .u8 0) 1 1 Tryd.underlying58 hi hz0 hz1 hz2 rfl (by decide) _ _ _ hown' ⟨W.heap.size, 0, none⟩ 1 1 [.int .u8 (c.toNat : Int)] rfl
    (fun j u hj => by
      rw [Go.WideShapes.add_plain, cell_of_row _ _ _ _ _ _ (heap_alloc_new W _)]
      simpa using hj)
    (fun u hu => by rw [List.mem_singleton.1 hu]; rfl) (by unfold maxLen; omega) (by omega) (by simp; omega)
  refine ⟨v', w', hrun, ⟨?_, ?_, ?_⟩, (Kpt.of_below (below_alloc W _) (Nat.le_refl _)).trans (Kpt.grown hown' hgr)⟩
  · rw [Lib.byteCells_append, List.length_append]
    exact ho
  · exact (h.bel.alloc hs _).grown hgr (by simp; omega) (fun k hk => (World.ownsRow.lt h.own k hk).1)
  · have := hgr.size; simp at this; omega
theorem Txt.str {B : Nat} {w1 W : World} {v : Value} {T : List UInt8} (h : Txt B w1 W v T) (l : List UInt8) (hT : T.length + l.length ≤ 140737488350000) :
    ∃ v' W', (Builtin.append_ #[58, 9] 58 #[v, .string ⟨l.toArray⟩]).run Tryd.prog W = .ok v' W' ∧ Txt B w1 W' v' (T ++ l) ∧ Kpt W W' := by
  obtain ⟨i0, hi, hz0, hz1, hz2⟩ := info_parts info5
  have hs := h.size
  have hsz : (⟨l.toArray⟩ : ByteArray).size = l.length := by simp [ByteArray.size]
  obtain ⟨v', w', hrun, ho, hgr, _⟩ := Lib.run_append_own_string (P := Tryd.prog) W B 58 9 58 5 i0 Tryd.underlying58 Tryd.underlying9 hi hz0 hz1 hz2 _ _ _ h.own ⟨l.toArray⟩ (by rw [hsz]; unfold maxLen; omega) (by rw [hsz]; omega) hs
  refine ⟨v', w', hrun, ⟨?_, ?_, ?_⟩, Kpt.grown h.own hgr⟩
  · rw [Lib.byteCells_append, List.length_append, ← hsz]
    exact ho
  · exact h.bel.grown hgr hs (fun k hk => (World.ownsRow.lt h.own k hk).1)
  · exact Nat.le_trans hs hgr.size
theorem Txt.go {B : Nat} {w1 W W' : World} {v : Value} {T : List UInt8} (h : Txt B w1 W v T) (hb : Below W.heap.size W W') : Txt B w1 W' v T := ⟨owns_below h.own hb, h.bel.trans (hb.mono h.size), Nat.le_trans h.size hb.size⟩
theorem wpList_append_runs {P : Program} {ops : Array Oper} {rest : List Oper} {o : Oper} {a : Act} {w : World} {Q : Exit → Act → World → Prop} (hw : Region.wanted o (yielded ops a.tmps) = true) (s x : Operand) (t u : TypeId)
    (ho : o.op = .call { callee := .builtin .append, args := #[s, x], argTypes := #[t, u] }) (v y v' : Value) (w' : World) (hs : a.eval s = v) (hx : a.eval x = y)
    (hrun : (Builtin.append_ #[t, u] o.type #[v, y]).run P w = .ok v' w') (h : wpList P ops Q rest (a.put o.dst v') w') : wpList P ops Q (o :: rest) a w := by
  refine wpList_step fun K hK => ?_
  rw [if_pos hw]
  unfold Oper.wp execOp
  simp only [ho, resolve, invoke, builtin, Sem.run_bind, Sem.run_pure, Result.andThen_ok, List.map_toArray, List.map_cons, List.map_nil, hs, hx, hrun]
  exact hK _ _ h
theorem owns_string {B : Nat} {W : World} {v : Value} {T : List UInt8} (h : W.ownsRow B 5 1 v T.length (Lib.byteCells T)) : (convert 58 9 v).run Tryd.prog W = .ok (.string ⟨T.toArray⟩) W := by
  rcases h.2 with ⟨rfl, h0⟩ | ⟨g, cap, cur, rfl, _⟩
  · rw [List.length_eq_zero_iff.1 h0]
    exact run_convert_bytes_nil W 58 5 Tryd.underlying58 Tryd.underlying5 0 0 9 Tryd.underlying9
  · exact run_convert_bytes_back (P := Tryd.prog) W 58 9 5 ⟨g, 0, none⟩ cap T Tryd.underlying58 Tryd.underlying5 Tryd.underlying9 (fun j hj => World.ownsRow.cells h (g := g) rfl j _ (by simp [Lib.byteCells, hj]))
theorem bytesWorld_below (w : World) (e : TypeId) (s : ByteArray) : Below w.heap.size w (Lib.bytesWorld w e s) :=
  ⟨rfl, rfl, rfl, by rw [Lib.bytesWorld_size]; omega, fun k hk => Lib.bytesWorld_at_old w e s k hk⟩
theorem atoi_ok (l : List UInt8) (v : Int) (w : World) (hl : l.length ≤ 281474976710656) (h : Lib.atoiAll l = .ok v) :
    Calls Tryd.prog 33 #[.string ⟨l.toArray⟩] w fun e w' => e = .returned (.tuple #[.int .i64 v, .nilIface]) ∧ Below w.heap.size w w' := by
  refine (Tryd.strconv_Atoi_ok ⟨l.toArray⟩ (by simp [ByteArray.size]; omega) v h w).mono ?_
  rintro e w' ⟨rfl, rfl | ⟨t, rfl⟩⟩
  · exact ⟨rfl, Below.refl _ _⟩
  · exact ⟨rfl, bytesWorld_below _ _ _⟩
theorem atoi_bad (l : List UInt8) (w : World) (hE : Env w) (hl : l.length ≤ 281474976710656) (h : ∀ v, Lib.atoiAll l ≠ .ok v) :
    Calls Tryd.prog 33 #[.string ⟨l.toArray⟩] w fun e w' => (∃ (v : Int) (t : TypeId) (p : Value), e = .returned (.tuple #[.int .i64 v, .iface t p])) ∧ Below w.heap.size w w' := by
  cases hh : Lib.atoiAll l with
  | ok v => exact absurd hh (h v)
  | «syntax» =>
    obtain ⟨tp, p, hv⟩ := hE.syn
    refine (Tryd.strconv_Atoi_syntax_var ⟨l.toArray⟩ (by simp [ByteArray.size]; omega) hh tp p w hv).mono ?_
    rintro e w' ⟨N, rfl, _, _, hb⟩
    exact ⟨⟨_, _, _, rfl⟩, hb⟩
  | range =>
    obtain ⟨tp, p, hv⟩ := hE.ran
    refine (Tryd.strconv_Atoi_range_var ⟨l.toArray⟩ (by simp [ByteArray.size]; omega) hh tp p w hv).mono ?_
    rintro e w' ⟨N, rfl, _, _, hb⟩
    exact ⟨⟨_, _, _, rfl⟩, hb⟩
theorem grow_below (w : World) (k : Nat) (os : Array Obj) : Below w.heap.size w (Sort.grow (w.drewN k) os) :=
  ⟨rfl, rfl, rfl, by simp, fun i hi => Sort.heap_grow_old (w.drewN k) os hi⟩
theorem itoa_any (n : Int) (w : World) (hE : Env w) (h0 : -9223372036854775808 ≤ n) (h1 : n ≤ 9223372036854775807) :
    Calls Tryd.prog 24 #[.int .i64 n] w fun e w' => e = .returned (.string ⟨(Lib.itoa n).toArray⟩) ∧ Below w.heap.size w w' := by
  refine (Tryd.strconv_Itoa n h0 h1 w hE.pow).mono ?_
  rintro e w' ⟨rfl, k, os, rfl⟩
  exact ⟨rfl, grow_below w k os⟩

end Go.Proofs.YtpmpndfinghlkaaDoor

