/- Bytes put behind bytes: what append makes of a row of the call's own, whatever slice stands behind it; nothing that was there before is written. -/
import Derived.Test.YtmokokkdllmdoabDoorAlive
import Derived.Laws.OwnMore
namespace Go.Proofs.YtmokokkdllmdoabDoor
open Go.RowKit
open Crc

theorem info5 : (Tryd.prog.info? 5).map (fun i => (i.zero, i.size, i.bytes)) = some (some (.int .u8 0), 1, 1) := by kernel_rfl
def cellsOf (l : List (BitVec 8)) : List Value := l.map fun x => Value.int .u8 (x.toNat : Int)
theorem cellsOf_append (l m : List (BitVec 8)) : cellsOf l ++ cellsOf m = cellsOf (l ++ m) := by simp [cellsOf]
theorem cellsOf_at {l : List (BitVec 8)} {j : Nat} {u : Value} (h : (cellsOf l)[j]? = some u) : j < l.length ∧ u = .int .u8 ((l.getD j 0#8).toNat : Int) := by
  simp only [cellsOf, List.getElem?_map, Option.map_eq_some_iff] at h
  obtain ⟨x, hx, rfl⟩ := h
  obtain ⟨hj, rfl⟩ := List.getElem?_eq_some_iff.1 hx
  exact ⟨hj, by simp [List.getD, hj]⟩

/-- the call's own row, of so many bytes -/
def Own (B : Nat) (w : World) (g cap : Nat) (l : List (BitVec 8)) : Prop := w.ownsRow B 5 1 (.slice (some ⟨g, 0, none⟩) l.length cap) l.length (cellsOf l)

theorem Own.row {B : Nat} {w : World} {g cap : Nat} {l : List (BitVec 8)} (h : Own B w g cap l) : Row w (some ⟨g, 0, none⟩) l := by
  have hc := World.ownsRow.cells h (g := g) rfl
  refine ⟨?_, fun _ => ⟨g, 0, rfl, fun j hj => ?_⟩⟩
  · rcases h.2 with ⟨hv, _⟩ | ⟨g', c', cur, hv, _, _, h1, h2, _⟩
    · cases hv
    · unfold maxLen at h2; omega
  · have := hc j (.int .u8 ((l.getD j 0#8).toNat : Int)) (by simp [cellsOf, List.getD, hj])
    rwa [Go.WideShapes.add_plain] at this

theorem append_run (B : Nat) (w : World) (g cap : Nat) (l : List (BitVec 8)) (a : Option Addr) (c : Nat) (m : List (BitVec 8)) (h : Own B w g cap l) (hr : Row w a m) (hn : a = none → c = 0) (hB : B ≤ w.heap.size) (hlen : l.length + m.length ≤ 140737488355328) :
    ∃ g' cap' w', (Builtin.append_ #[22, 22] 22 #[.slice (some ⟨g, 0, none⟩) l.length cap, .slice a m.length c]).run Tryd.prog w = .ok (.slice (some ⟨g', 0, none⟩) (l.length + m.length) cap') w' ∧ Own B w' g' cap' (l ++ m) ∧ Below B w w' := by
  obtain ⟨i0, hi, hz0, hz1, hz2⟩ := info_parts info5
  have some_case : ∀ ad : Addr, a = some ad → (∀ j u, (cellsOf m)[j]? = some u → w.cell? (ad.add j) = some u) →
      ∃ g' cap' w', (Builtin.append_ #[22, 22] 22 #[.slice (some ⟨g, 0, none⟩) l.length cap, .slice a m.length c]).run Tryd.prog w = .ok (.slice (some ⟨g', 0, none⟩) (l.length + m.length) cap') w' ∧ Own B w' g' cap' (l ++ m) ∧ Below B w w' := by
    rintro ad rfl hcell
    obtain ⟨v', w', hrun, hown, hgr, hnil⟩ := run_append_own (P := Tryd.prog) w B 22 22 5 i0 (.int .u8 0) 1 1 Tryd.underlying22 hi hz0 hz1 hz2 rfl (by decide) _ _ _ h ad m.length c (cellsOf m) (by simp [cellsOf]) hcell
      (fun u hu => by obtain ⟨x, _, rfl⟩ := List.mem_map.1 hu; rfl) (by unfold maxLen; omega) (by omega) hB
    rcases hown.2 with ⟨hv, _⟩ | ⟨g', cap', cur, rfl, _⟩
    · exact absurd (hnil.1 hv).1 (by simp)
    · refine ⟨g', cap', w', hrun, ?_, ?_⟩
      · unfold Own
        rw [← cellsOf_append, List.length_append]
        exact hown
      · refine (Below.refl B w).grown hgr hB (fun k hk => ?_)
        exact (World.ownsRow.lt h k hk).1
  by_cases hm : m = []
  · subst hm
    cases a with
    | none =>
      rw [hn rfl]
      exact ⟨g, cap, w, run_append_owned_none w B 22 22 5 i0 1 Tryd.underlying22 hi _ _ _ h, by rw [List.append_nil]; exact h, Below.refl B w⟩
    | some ad => exact some_case ad rfl (fun j u hu => by simp [cellsOf] at hu)
  · obtain ⟨b, off, ha, hc⟩ := hr.2 hm
    exact some_case _ ha (fun j u hu => by
      obtain ⟨hj, rfl⟩ := cellsOf_at hu
      rw [Go.WideShapes.add_plain]
      exact hc j hj)

/-- an append whose run is known, under a guard that holds or under none -/
theorem wpList_append_run {P : Program} {ops : Array Oper} {rest : List Oper} {o : Oper} {a : Act} {w : World} {Q : Exit → Act → World → Prop} (hw : Region.wanted o (yielded ops a.tmps) = true) (s x : Operand) (t : TypeId)
    (ho : o.op = .call { callee := .builtin .append, args := #[s, x], argTypes := #[t, t] }) (v u v' : Value) (w' : World) (hs : a.eval s = v) (hx : a.eval x = u)
    (hrun : (Builtin.append_ #[t, t] o.type #[v, u]).run P w = .ok v' w') (h : wpList P ops Q rest (a.put o.dst v') w') : wpList P ops Q (o :: rest) a w := by
  refine wpList_step fun K hK => ?_
  rw [if_pos hw]
  unfold Oper.wp execOp
  simp only [ho, resolve, invoke, builtin, Sem.run_bind, Sem.run_pure, Result.andThen_ok, List.map_toArray, List.map_cons, List.map_nil, hs, hx, hrun]
  exact hK _ _ h

theorem own_new (B : Nat) (w : World) (l : List (BitVec 8)) (hB : B ≤ w.heap.size) (hl : l.length ≤ maxLen) : Own B (w.alloc (.cells (cellsOf l).toArray 5)) w.heap.size l.length l := by
  have := World.ownsRow_lit (base := B) (e := 5) (size := 1) w (cellsOf l).toArray l.length hB hl (by simp [cellsOf])
  simpa [Own] using this

end Go.Proofs.YtmokokkdllmdoabDoor
