/- A list of texts: List. -/
import Derived.Test.YtngkbacnajgmcaaDoorRows2
import Derived.Test.YtngkbacnajgmcaaDoorBulk
import Derived.Deep.RegionLaw
namespace Go.Proofs.YtngkbacnajgmcaaDoor
open Go.RowKit

/-- where texts lie -/
def Strs (w : World) (p : Option Addr) (l : List (List UInt8)) : Prop := l ≠ [] → ∃ b o, p = some ⟨b, o, none⟩ ∧ ∀ i (h : i < l.length), w.cell? ⟨b, o + i, none⟩ = some (.string ⟨l[i].toArray⟩)
theorem Strs.below {w w' : World} {n : Nat} {p : Option Addr} {l : List (List UInt8)} (h : Strs w p l) (hb : Below n w w') (hn : w.heap.size ≤ n) : Strs w' p l := fun hne => by
  obtain ⟨b, o, rfl, hc⟩ := h hne
  exact ⟨b, o, rfl, fun i hi => by rw [hb.cell (Nat.lt_of_lt_of_le (block_lt_of_cell (hc i hi)) hn)]; exact hc i hi⟩
/-- a text as a reply -/
def bulkR (t : List UInt8) : Rep := .mk 4 0 t []
def listR (l : List (List UInt8)) : Rep := .mk 6 0 [] (l.map bulkR)
theorem step_append_run {P : Program} {ops : Array Oper} {o : Oper} {a : Act} {w : World} {K : Act → World → Prop} {Q : Exit → Act → World → Prop} {E : Prop} (hw : Region.wanted o (yielded ops a.tmps) = true) (s x : Operand) (t : TypeId)
    (ho : o.op = .call { callee := .builtin .append, args := #[s, x], argTypes := #[t, t] }) (v u v' : Value) (w' : World) (hs : a.eval s = v) (hx : a.eval x = u)
    (hrun : (Builtin.append_ #[t, t] o.type #[v, u]).run P w = .ok v' w') (h : K (a.put o.dst v') w') : if Region.wanted o (yielded ops a.tmps) = true then o.wp P a w K Q else E := by
  rw [if_pos hw]
  unfold Oper.wp execOp
  simp only [ho, resolve, invoke, builtin, Sem.run_bind, Sem.run_pure, Result.andThen_ok, List.map_toArray, List.map_cons, List.map_nil, hs, hx, hrun]
  exact h
theorem bulk_rp {P : Nat → Prop} {w : World} {t : List UInt8} (h : t.length ≤ 9223372036854775807) : Rp P w 1 (.agg #[.int .i64 (bulkR t).kind, .int .i64 (bulkR t).int, .string ⟨(bulkR t).text.toArray⟩, .slice none (bulkR t).list.length 0]) (bulkR t) :=
  ⟨none, 0, rfl, ⟨by simp [bulkR, Rep.kind], by simp [bulkR, Rep.kind], by simp [bulkR, Rep.int], by simp [bulkR, Rep.int], h, by simp [bulkR, Rep.list]⟩, RowOf.nil _ _ _ _⟩
theorem take_bulk {l : List (List UInt8)} {i : Nat} (h : i < l.length) : (l.take (i + 1)).map bulkR = (l.take i).map bulkR ++ [bulkR l[i]] := by
  rw [List.take_succ_eq_append_getElem h, List.map_append]; rfl
theorem Rws.keep {B d : Nat} {W W' : World} {v : Value} {acc : List Rep} (h : Rws B W d v acc) (hk : ∀ b, B ≤ b → b < W.heap.size → W'.heap[b]? = W.heap[b]?) : Rws B W' d v acc := by
  obtain ⟨xs, h1, h2⟩ := h
  refine ⟨xs, ⟨h1.1, ?_⟩, fun j hj => ?_⟩
  · rcases h1.2 with h | ⟨g, cap, cur, e1, e2, e3, e4⟩
    · exact .inl h
    · exact .inr ⟨g, cap, cur, e1, e2, (hk g e2 (Array.getElem?_eq_some_iff.1 e3).1).trans e3, e4⟩
  · obtain ⟨q, c, a0, a1, a2, a3, a4⟩ := h2 j hj
    exact ⟨q, c, a0, a1, a2, a3, a4.turn (fun b hb hlt => ⟨hb, hk b hb.1 hlt⟩) (Nat.le_refl _)⟩
set_option maxHeartbeats 2000000 in
set_option maxRecDepth 100000 in
/-- List -/
theorem list_any (p : Option Addr) (l : List (List UInt8)) (cap : Nat) (w : World) (hA : Strs w p l) (hl : l.length ≤ 1000000000000) (ht : ∀ t ∈ l, t.length ≤ 9223372036854775807) :
    Calls Tryd.prog 17 #[.slice p l.length cap] w fun e w' => ∃ (q : Option Addr) (c : Nat), e = .returned (.agg #[.int .i64 6, .int .i64 0, .string ⟨#[]⟩, .slice q l.length c]) ∧
      Hid (Rp (fun b => w.heap.size ≤ b) w' 2 (.agg #[.int .i64 6, .int .i64 0, .string ⟨#[]⟩, .slice q l.length c]) (listR l) ∧ Below w.heap.size w w') := by
  have HA := hid hA
  have HT := hid ht
  have HT2 := hid fun (t : List UInt8) (w : World) => text_any t w
  have HZ0 := hid fun (o o' : Obj) => heap_alloc2_old w o o'
  have HZ1 := hid fun (o o' : Obj) => heap_alloc2_new w o o'
  clear hA ht
  go_enter Tryd.func17, Tryd.ntmps17
  go_wp2_with fail
  go_loopw [9] (fun v9 W => ∃ (i : Nat) (v : Value), v9 = .int .i64 i ∧ i ≤ l.length ∧ Hid (W.heap[w.heap.size]? = some (.cells #[.int .i64 0, .int .i64 0, .string ⟨#[]⟩, .slice none 0 0] 24 (0, 0))) ∧ Hid (W.heap[w.heap.size + 1]? = some (.cells #[.int .i64 6, .int .i64 0, .string ⟨#[]⟩, v] 24 (0, 0))) ∧ Hid (Rws (w.heap.size + 2) W 1 v ((l.take i).map bulkR)) ∧ Hid (Below w.heap.size w W)) (fun v9 _ => l.length - (intOf v9).toNat)
  case atStart => exact ⟨0, .slice none 0 0, rfl, Nat.zero_le _, HZ0.out _ _, HZ1.out _ _, by simpa [Hid] using Rws.nil _ _ _, below2 w _ _⟩
  case round =>
    obtain ⟨i, v, rfl, hi, HR0, HR1, HW, HB⟩ := hrel
    by_cases hlt : i < l.length
    · have hlz : (i : Int) < (l.length : Int) := by omega
      obtain ⟨b, o, rfl, hc⟩ := HA.out (fun e => by rw [e] at hlt; simp at hlt)
      have hci : wr.cell? ⟨b, o + i, none⟩ = some (.string ⟨l[i].toArray⟩) := by rw [HB.out.cell (block_lt_of_cell (hc i hlt))]; exact hc i hlt
      have HNx := hid (take_bulk hlt)
      have HTi := hid (HT.out l[i] (List.getElem_mem hlt))
      have Hlen : Hid (((l.take i).map bulkR).length ≤ 1000000000000) := by unfold Hid; simp; omega
      generalize l[i] = t at *
      clear hc
      obtain ⟨⟨c0, c1, c2, c3⟩, f0, f1, f2, f3⟩ := row_facts HR1.out
      have hwlt : w.heap.size + 1 < wr.heap.size := (Array.getElem?_eq_some_iff.1 HR1.out).1
      obtain ⟨pv, cv, hv⟩ := HW.out.shape
      obtain ⟨nv, hnv⟩ : ∃ nv, nv = ((l.take i).map bulkR).length := ⟨_, rfl⟩
      rw [← hnv] at hv
      subst hv
      clear hnv
      have HWd := hid (HW.out.below (Below.refl _ wr).drew)
      go_wp2_with fail
      go_region_law (first
        | (refine step_append_run rfl _ _ 22 rfl _ _ _ _ rfl rfl HRun.out ?_)
        | (go_simp; go_at_call 23; refine (HT2.out _ _).mono ?_; rintro e w3 ⟨rfl, hb3⟩; obtain ⟨v', W4, hrun, hw4, hb4⟩ := (HWd.out.below hb3).push (r := bulkR t) (q := none) (c := 0) (by have := hb3.size; simp at this; omega) Hlen.out (bulk_rp HTi.out); obtain ⟨p4, c4, rfl⟩ := hw4.shape; have hw3 : w.heap.size + 1 < w3.heap.size := Nat.lt_of_lt_of_le hwlt hb3.size; have HRun := hid hrun; have HW4 := hid hw4; have HB3 := hid hb3; have HB4 := hid hb4; have hr3 := (hb3.block (w.heap.size + 1) (by simpa using hwlt)).trans HR1.out; have hr4 := (hb4.block (w.heap.size + 1) (by omega)).trans hr3; have HR4 := hid hr4; obtain ⟨⟨c0, c1, c2, c3⟩, f0, f1, f2, f3⟩ := row_facts hr3; obtain ⟨⟨d0, d1, d2, d3⟩, g0, g1, g2, g3⟩ := row_facts hr4; clear hrun hw4 hb3 hb4 hr3 hr4))
      all_goals go_wp2_with fail
      all_goals
        refine ⟨⟨i + 1, .slice p4 ((l.take i).map bulkR ++ [bulkR t]).length c4, by go_num, by omega, ?_, ?_, ?_, ?_⟩, by simp [intOf]; omega⟩
        · show (W4.setCell _ _).heap[w.heap.size]? = _
          rw [heap_setCell_other _ _ _ _ (by simp)]
          exact (HB4.out.block w.heap.size (by omega)).trans ((HB3.out.block w.heap.size (by simp; omega)).trans HR0.out)
        · have hln : ((l.take i).map bulkR ++ [bulkR t]).length = i + 1 := by simp; omega
          rw [hln]
          exact heap_setCell_same W4 (w.heap.size + 1) 3 _ _ _ HR4.out
        · rw [HNx.out]
          exact HW4.out.keep (fun b hb _ => heap_setCell_other _ _ _ _ (by simp; omega))
        · exact (((HB.out.drew.trans (HB3.out.mono HB.out.size)).trans (HB4.out.mono (by omega))).setCell (by simp) _)
    · obtain ⟨pv, cv, rfl⟩ := HW.out.shape
      have et : l.take i = l := List.take_of_length_le (by omega)
      rw [et] at HW HR1
      rw [List.length_map] at HW HR1
      go_wp2_with (first | (refine wpList_load_row rfl 24 _ rfl (w.heap.size + 1) rfl 24 _ (0, 0) _ HR1.out Tryd.underlying24 rfl (infoRep _ _ _ _) ?_) | (refine wpList_store_row rfl 24 _ _ rfl w.heap.size #[.int .i64 6, .int .i64 0, .string ⟨#[]⟩, .slice pv l.length cv] rfl rfl 24 _ HR0.out (infoRep _ _ _ _) rfl (oneR _ _ _ _ _ _) ?_))
      refine bodyPost_ret (v := .agg #[.int .i64 6, .int .i64 0, .string ⟨#[]⟩, .slice pv l.length cv]) ?_ rfl ?_
      · exact ret_rep1 rfl rfl (setRow_heap wr _ _ _ _ _ HR0.out)
      · refine ⟨pv, cv, rfl, ⟨pv, cv, by simp [listR, Rep.kind, Rep.int, Rep.text, Rep.list], ⟨by simp [listR, Rep.kind], by simp [listR, Rep.kind], by simp [listR, Rep.int], by simp [listR, Rep.int], by simp [listR, Rep.text], by simp [listR, Rep.list]; omega⟩, ?_⟩, below_setRow HB.out (Nat.le_refl _) _⟩
        refine HW.out.row.2.turn (fun b hb _ => ⟨by omega, setRow_other _ _ _ _ (by omega)⟩) (Nat.le_refl _)

end Go.Proofs.YtngkbacnajgmcaaDoor
