/- A command written: resp.appendNumber. -/
import Derived.Test.YtjcegiponjpjiabDoorParser
import Derived.Lib.AppendStr
import Derived.Lib.ItoaNum
import Derived.Lib.ItoaMem
namespace Go.Proofs.YtjcegiponjpjiabDoor
open Go.RowKit

/-- what the calls read of the package-level variables -/
structure Env (w : World) : Prop where
  room : 6 ≤ w.heap.size
  pow : Lib.TabIs Tryd.prog w "internal/strconv.uint64pow10" .u64 Lib.pow10Tab
theorem gPow : Tryd.prog.globalNamed "internal/strconv.uint64pow10" = some 1 := by kernel_rfl
theorem Env.keep {w w' : World} (h : Env w) (hs : w.heap.size ≤ w'.heap.size) (hb : ∀ k, k < 6 → w'.heap[k]? = w.heap[k]?) : Env w' := by
  refine ⟨Nat.le_trans h.room hs, ?_⟩
  have := h.pow
  unfold Lib.TabIs World.var? at this ⊢
  rw [gPow] at this ⊢
  simp only [Option.bind_some] at this ⊢
  rw [hb 1 (by decide)]; exact this
theorem Env.below {w w' : World} {n : Nat} (h : Env w) (hb : Below n w w') (hn : 6 ≤ n) : Env w' := h.keep hb.size fun k hk => hb.block k (by omega)
theorem Env.only {w w' : World} {b : Nat} (h : Env w) (hb : Only b w w') (hn : 6 ≤ b) : Env w' := h.keep hb.size fun k hk => hb.block k (by have := h.room; omega) (by omega)
theorem info5 : (Tryd.prog.info? 5).map (fun i => (i.zero, i.size, i.bytes)) = some (some (.int .u8 0), 1, 1) := by kernel_rfl
theorem owns_below {W W' : World} {base : Nat} {e : TypeId} {size : Nat} {v : Value} {n : Nat} {xs : List Value} (h : W.ownsRow base e size v n xs) (hb : Below W.heap.size W W') : W'.ownsRow base e size v n xs := by
  refine ⟨h.1, ?_⟩
  rcases h.2 with h | ⟨g, cap, cur, h1, h2, h3, h4⟩
  · exact .inl h
  · exact .inr ⟨g, cap, cur, h1, h2, (hb.block g (Array.getElem?_eq_some_iff.1 h3).1).trans h3, h4⟩
/-- a number's digits -/
abbrev dec (n : Nat) : List UInt8 := Lib.decDigits n
/-- a text under way, in a row of the call's own -/
structure Txt (B : Nat) (w1 : World) (W : World) (v : Value) (T : List UInt8) : Prop where
  own : W.ownsRow B 5 1 v T.length (Lib.byteCells T)
  bel : Below B w1 W
  size : B ≤ W.heap.size
theorem Txt.push {B : Nat} {w1 W : World} {v : Value} {T : List UInt8} (h : Txt B w1 W v T) (c : UInt8) (hT : T.length ≤ 140737488350000) :
    ∃ v' W', (Builtin.append_ #[26, 26] 26 #[v, .slice (some ⟨W.heap.size, 0, none⟩) 1 1]).run Tryd.prog (W.alloc (.cells #[.int .u8 (c.toNat : Int)] 5)) = .ok v' W' ∧ Txt B w1 W' v' (T ++ [c]) := by
  obtain ⟨i0, hi, hz0, hz1, hz2⟩ := info_parts info5
  have hs := h.size
  have hown' := owns_below h.own (below_alloc W (.cells #[.int .u8 (c.toNat : Int)] 5))
  obtain ⟨v', w', hrun, ho, hgr, _⟩ := run_append_own (P := Tryd.prog) (W.alloc (.cells #[.int .u8 (c.toNat : Int)] 5)) B 26 26 5 i0 (.int .u8 0) 1 1 Tryd.underlying26 hi hz0 hz1 hz2 rfl (by decide) _ _ _ hown' ⟨W.heap.size, 0, none⟩ 1 1 [.int .u8 (c.toNat : Int)] rfl
    (fun j u hj => by
      rw [Go.WideShapes.add_plain, cell_of_row _ _ _ _ _ _ (heap_alloc_new W _)]
      simpa using hj)
    (fun u hu => by rw [List.mem_singleton.1 hu]; rfl) (by unfold maxLen; omega) (by omega) (by simp; omega)
  refine ⟨v', w', hrun, ?_, ?_, ?_⟩
  · rw [Lib.byteCells_append, List.length_append]
    exact ho
  · exact (h.bel.alloc hs _).grown hgr (by simp; omega) (fun k hk => (World.ownsRow.lt h.own k hk).1)
  · have := hgr.size; simp at this; omega
theorem Txt.str {B : Nat} {w1 W : World} {v : Value} {T : List UInt8} (h : Txt B w1 W v T) (l : List UInt8) (hT : T.length + l.length ≤ 140737488350000) :
    ∃ v' W', (Builtin.append_ #[26, 9] 26 #[v, .string ⟨l.toArray⟩]).run Tryd.prog W = .ok v' W' ∧ Txt B w1 W' v' (T ++ l) := by
  obtain ⟨i0, hi, hz0, hz1, hz2⟩ := info_parts info5
  have hs := h.size
  have hsz : (⟨l.toArray⟩ : ByteArray).size = l.length := by simp [ByteArray.size]
  obtain ⟨v', w', hrun, ho, hgr, _⟩ := Lib.run_append_own_string (P := Tryd.prog) W B 26 9 26 5 i0 Tryd.underlying26 Tryd.underlying9 hi hz0 hz1 hz2 _ _ _ h.own ⟨l.toArray⟩ (by rw [hsz]; unfold maxLen; omega) (by rw [hsz]; omega) hs
  refine ⟨v', w', hrun, ?_, ?_, ?_⟩
  · rw [Lib.byteCells_append, List.length_append, ← hsz]
    exact ho
  · exact h.bel.grown hgr hs (fun k hk => (World.ownsRow.lt h.own k hk).1)
  · exact Nat.le_trans hs hgr.size
/-- a number more -/
theorem Txt.int {B : Nat} {w1 : World} {W : World} {v : Value} {T : List UInt8} (h : Txt B w1 W v T) (hE : Env w1) (hB : 6 ≤ B) (n : Nat) (hn : n ≤ 9223372036854775807) (hT : T.length ≤ 140737488350000) :
    Calls Tryd.prog 13 #[v, .int .i64 n, .int .i64 10] W fun e W' => ∃ v', e = .returned v' ∧ Txt B w1 W' v' (T ++ dec n) := by
  refine (Tryd.strconv_AppendInt_10 B T.length n (by omega) (by omega) v (Lib.byteCells T) W h.own h.size (by omega) (fun w' hb => ((hE.below h.bel hB).below hb hB).pow)).mono ?_
  rintro e W' ⟨v', rfl, ho, hb, _⟩
  rw [Lib.itoa_nonneg] at ho
  refine ⟨v', rfl, ?_, h.bel.trans hb, Nat.le_trans h.size hb.size⟩
  rw [Lib.byteCells_append, List.length_append]
  exact ho
theorem wpList_append_runs {P : Program} {ops : Array Oper} {rest : List Oper} {o : Oper} {a : Act} {w : World} {Q : Exit → Act → World → Prop} (hw : Region.wanted o (yielded ops a.tmps) = true) (s x : Operand) (t u : TypeId)
    (ho : o.op = .call { callee := .builtin .append, args := #[s, x], argTypes := #[t, u] }) (v y v' : Value) (w' : World) (hs : a.eval s = v) (hx : a.eval x = y)
    (hrun : (Builtin.append_ #[t, u] o.type #[v, y]).run P w = .ok v' w') (h : wpList P ops Q rest (a.put o.dst v') w') : wpList P ops Q (o :: rest) a w := by
  refine wpList_step fun K hK => ?_
  rw [if_pos hw]
  unfold Oper.wp execOp
  simp only [ho, resolve, invoke, builtin, Sem.run_bind, Sem.run_pure, Result.andThen_ok, List.map_toArray, List.map_cons, List.map_nil, hs, hx, hrun]
  exact hK _ _ h
set_option maxHeartbeats 1000000 in
set_option maxRecDepth 100000 in
/-- appendNumber -/
theorem appendNumber_any {B : Nat} {w1 : World} {W : World} {v : Value} {T : List UInt8} (h : Txt B w1 W v T) (hE : Env w1) (hB : 6 ≤ B) (c : UInt8) (n : Nat) (hn : n ≤ 9223372036854775807) (hT : T.length ≤ 140737488340000) (hd : (dec n).length ≤ 30) :
    Calls Tryd.prog 11 #[v, .int .u8 (c.toNat : Int), .int .i64 n] W fun e W' => ∃ v', e = .returned v' ∧ Hid (Txt B w1 W' v' (T ++ [c] ++ dec n ++ [13, 10])) := by
  obtain ⟨v1, w2, hrun1, ht1⟩ := h.push c (by omega)
  have hl1 : (T ++ [c]).length = T.length + 1 := by simp
  have HI := hid (ht1.int hE hB n hn (by omega))
  have HR1 := hid hrun1
  obtain ⟨z, hz⟩ : ∃ z : Int, z = (c.toNat : Int) := ⟨_, rfl⟩
  rw [← hz] at HR1
  rw [← hz]
  clear h hrun1 ht1 hz
  go_enter Tryd.func11, Tryd.ntmps11
  go_wp2_with (at_builtin; refine wpList_append_runs rfl _ _ 26 26 rfl _ _ _ _ rfl rfl HR1.out ?_)
  refine HI.out.mono ?_
  rintro e w3 ⟨v2, rfl, ht2⟩
  have hl2 : (T ++ [c] ++ dec n).length ≤ T.length + 31 := by simp; omega
  obtain ⟨v3, w4, hrun2, ht3⟩ := ht2.str [13, 10] (by simp at hl2 ⊢; omega)
  have HR2 := hid hrun2
  have HT3 := hid ht3
  clear hrun2 ht3 ht2 HI HR1
  go_wp2_with (at_builtin; refine wpList_append_runs rfl _ _ 26 9 rfl _ _ _ _ rfl rfl HR2.out ?_)
  go_ret
  exact ⟨_, rfl, HT3.out⟩

end Go.Proofs.YtjcegiponjpjiabDoor
