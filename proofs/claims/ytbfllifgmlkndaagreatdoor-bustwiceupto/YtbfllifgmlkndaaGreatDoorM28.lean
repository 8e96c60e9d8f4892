/- BuRef1, BuRef2, VpJ. -/
import Derived.Test.YtbfllifgmlkndaaGreatDoorM17
import Derived.Test.YtbfllifgmlkndaaGreatDoorM27
import Derived.Test.YtbfllifgmlkndaaGreatDoorM14
import Derived.Test.YtbfllifgmlkndaaGreatDoorM22
namespace Go.Proofs.YtbfllifgmlkndaaGreatDoor
open Go.RowKit
open Slot

/-- what goes out, cell by cell -/
def flatO (L : List (Int × Bs)) : List Value := L.flatMap fun o => [.int .i64 o.1, .string ⟨o.2.toArray⟩]
theorem flatO_len (L : List (Int × Bs)) : (flatO L).length = L.length * 2 := by
  unfold flatO
  induction L with
  | nil => rfl
  | cons o L ih => rw [List.flatMap_cons, List.length_append, ih, List.length_cons]; simp; omega
theorem flatO_app (L M : List (Int × Bs)) : flatO (L ++ M) = flatO L ++ flatO M := by unfold flatO; rw [List.flatMap_append]
theorem flatO_one (L : List (Int × Bs)) : ∀ u ∈ flatO L, u.oneCell' = true := fun u hu => by
  unfold flatO at hu
  obtain ⟨o, _, ho⟩ := List.mem_flatMap.1 hu
  simp only [List.mem_cons, List.not_mem_nil, or_false] at ho
  rcases ho with rfl | rfl <;> rfl
/-- a row of the document's Outs of the call's own, or of an earlier one's -/
def OutR (B : Nat) (W : World) (v : Value) (L : List (Int × Bs)) : Prop := W.ownsRow B 91 2 v L.length (flatO L)
theorem OutR.mono {B C : Nat} {W : World} {v : Value} {L : List (Int × Bs)} (h : OutR B W v L) (hc : C ≤ B) : OutR C W v L := by
  obtain ⟨h1, h2⟩ := h
  refine ⟨h1, ?_⟩
  rcases h2 with h2 | ⟨g, cap, cur, a, b, r⟩
  · exact .inl h2
  · exact .inr ⟨g, cap, cur, a, Nat.le_trans hc b, r⟩
theorem OutR.below {B : Nat} {W W' : World} {v : Value} {L : List (Int × Bs)} (h : OutR B W v L) (hb : Below W.heap.size W W') : OutR B W' v L := owns_below h hb
theorem infoROut : (Tryz.prog.info? 91).map (fun i => (i.zero.isSome, i.size, i.bytes)) = some (true, 2, 24) := by kernel_rfl
theorem zeroROut : ((Tryz.prog.info? 91).bind (fun i => i.zero)).map (fun z => z.cells.size) = some 2 := by kernel_rfl
/-- a row behind another one -/
theorem outr_join {B B2 : Nat} {W : World} {v1 v2 : Value} {L M : List (Int × Bs)} (h1 : OutR B W v1 L) (h2 : OutR B2 W v2 M) (hB : B ≤ W.heap.size) (hl : L.length ≤ 1000000) (hm : M.length ≤ 1000000) :
    ∃ v' W', (Builtin.append_ #[39, 39] 39 #[v1, v2]).run Tryz.prog W = .ok v' W' ∧ OutR B W' v' (L ++ M) ∧ Below B W W' := by
  have hi := infoROut
  cases hi0 : Tryz.prog.info? 91 with
  | none => rw [hi0] at hi; cases hi
  | some i0 =>
    rw [hi0] at hi
    simp only [Option.map_some, Option.some.injEq, Prod.mk.injEq] at hi
    obtain ⟨hz0, hz1, hz2⟩ := hi
    obtain ⟨z, hz⟩ := Option.isSome_iff_exists.1 hz0
    have hzs : z.cells.size = 2 := by
      have hk := zeroROut
      rw [hi0, Option.bind_some, hz] at hk
      simpa using hk
    rcases h2.2 with ⟨rfl, h0⟩ | ⟨g, cap, cur, rfl, hg, hh, hc1, hc2, hc3, hc4⟩
    · have hM : M = [] := List.length_eq_zero_iff.1 h0
      subst hM
      refine ⟨v1, W, run_append_owned_none W B 39 39 91 i0 2 Tryz.underlying39 hi0 v1 L.length _ h1, ?_, Below.refl _ _⟩
      rw [List.append_nil]; exact h1
    · obtain ⟨v', W', hrun, ho, hgr, -⟩ := run_append_own (P := Tryz.prog) W B 39 39 91 i0 z 2 24 Tryz.underlying39 hi0 hz hz1 hz2 hzs (by decide) _ _ _ h1 ⟨g, 0, none⟩ M.length cap (flatO M) (flatO_len M)
        (fun j u hj => by
          rw [Go.WideShapes.add_plain, Nat.zero_add, cell_of_row W g j cur _ _ hh]
          have := congrArg (fun l : List Value => l[j]?) hc4
          simp only [List.getElem?_take] at this
          have hj2 : j < M.length * 2 := by
            have := (List.getElem?_eq_some_iff.1 hj).1
            rwa [flatO_len] at this
          rw [if_pos hj2, hj] at this
          simpa using this)
        (flatO_one M) (by unfold maxLen; omega) (by omega) hB
      refine ⟨v', W', hrun, ?_, (Below.refl B W).grown hgr hB (fun k hk => (World.ownsRow.lt h1 k hk).1)⟩
      show World.ownsRow _ _ _ _ _ _ _
      rw [List.length_append, flatO_app]
      exact ho
/-- the document's bus, as cells -/
def rbc (self g cap cur : Nat) (v : Value) : Array Value := #[.int .i64 (self : Int), .slice (some ⟨g, 0, none⟩) 64 cap, .int .u64 (cur : Int), v]
theorem infoRB {C : Array Value} (h : C.size = 4) : (Tryz.prog.info? 41).map (·.size) = some C.size := by rw [h]; kernel_rfl
/-- what Encode makes of each -/
noncomputable def outs (tgt : Int) (L : List Pk) : List (Int × Bs) := L.map fun p => (tgt, encS p)
theorem outs_take (tgt : Int) (L : List Pk) {k : Nat} (h : k < L.length) : outs tgt (L.take (k + 1)) = outs tgt (L.take k) ++ [(tgt, encS L[k])] := by
  unfold outs
  rw [List.take_succ_eq_append_getElem h, List.map_append]; rfl
theorem ret_rb {fn : Func} {p : Tmp} (h : fn.results = #[.cell p 41]) {tmps : Array Value} {w : World} {b : Nat} {C : Array Value} (hs : C.size = 4) (hp : tmps.getD p undef = .pointer (some ⟨b, 0, none⟩)) (hB : w.heap[b]? = some (.cells C 41 (0, 0))) :
    (results fn tmps).run Tryz.prog w = .ok (.agg C) w :=
  results_cell_row h tmps w b 41 C (0, 0) _ hp hB Tryz.underlying41 rfl (infoRB hs)
theorem out_new (W : World) (tgt : Int) (s : Bs) : OutR W.heap.size (W.alloc (.cells #[.int .i64 tgt, .string ⟨s.toArray⟩] 91)) (.slice (some ⟨W.heap.size, 0, none⟩) 1 1) [(tgt, s)] :=
  ⟨rfl, .inr ⟨W.heap.size, 1, _, rfl, Nat.le_refl _, heap_alloc_new W _, Nat.le_refl _, by unfold maxLen; omega, rfl, rfl⟩⟩

end Go.Proofs.YtbfllifgmlkndaaGreatDoor

namespace Go.Proofs.YtbfllifgmlkndaaGreatDoor
open Go.RowKit
open Slot

theorem out_shape {B : Nat} {W : World} {v : Value} {L : List (Int × Bs)} (h : OutR B W v L) : ∃ a c, v = .slice a L.length c := by
  rcases h.2 with ⟨rfl, h0⟩ | ⟨g, cap, _, rfl, _⟩
  · exact ⟨none, 0, by rw [h0]⟩
  · exact ⟨_, _, rfl⟩
theorem out_empty {W : World} {c : Nat} (h : W.heap[c]? = some (.cells #[] 91 (0, 0))) : OutR c W (.slice (some ⟨c, 0, none⟩) 0 0) [] :=
  ⟨rfl, .inr ⟨c, 0, #[], rfl, Nat.le_refl _, h, Nat.le_refl _, by unfold maxLen; omega, rfl, rfl⟩⟩
/-- laid, on its way -/
structure La (w wr : World) (me g cap cur : Nat) (v1 : Value) (x : Option Addr) (L : List Pk) (v : Value) (O : List (Int × Bs)) : Prop where
  rb : wr.heap[w.heap.size]? = some (.cells (rbc me g cap cur v1) 41 (0, 0))
  res : ∃ C, wr.heap[w.heap.size + 1]? = some (.cells C 41 (0, 0)) ∧ C.size = 4
  pk : Pks wr x L
  out : OutR (w.heap.size + 2) wr v O
  bel : Below w.heap.size w wr
  sz : w.heap.size + 2 ≤ wr.heap.size
theorem La.fresh {w wr w' : World} {self g cap cur : Nat} {v1 : Value} {x : Option Addr} {L : List Pk} {v v' : Value} {O O' : List (Int × Bs)} (h : La w wr self g cap cur v1 x L v O) (hb : Below (w.heap.size + 2) wr w') (hx : ∀ a, x = some a → a.block < w.heap.size) (ho : OutR (w.heap.size + 2) w' v' O') : La w w' self g cap cur v1 x L v' O' := by
  obtain ⟨C, e, hs⟩ := h.res
  refine ⟨(hb.block _ (by omega)).trans h.rb, ⟨C, (hb.block _ (by omega)).trans e, hs⟩, h.pk.below hb (fun a e => by have := hx a e; omega), ho, h.bel.trans (hb.mono (by omega)), Nat.le_trans h.sz hb.size⟩
theorem rbc_one (self g cap cur : Nat) (v : Value) (hv : v.oneCell' = true) : (rbc self g cap cur v).all (·.oneCell') = true := by simp [rbc, hv]; simp [Value.oneCell']
set_option maxHeartbeats 4000000 in
set_option maxRecDepth 100000 in
theorem laid_any (self g cap cur n c B1 : Nat) (v1 : Value) (O : List (Int × Bs)) (tgt : Int) (x : Option Addr) (L : List Pk) (w : World) (hn : L.length = n) (hO : OutR B1 w v1 O) (hL : Pks w x L) (hx : ∀ a, x = some a → a.block < w.heap.size)
    (h64 : ∀ p ∈ L, p.epoch < 18446744073709551616 ∧ p.cur < 18446744073709551616) (hO6 : O.length ≤ 900000) (hn6 : n ≤ 1000) :
    Calls Tryz.prog 53 #[.agg (rbc self g cap cur v1), .int .i64 tgt, .slice x n c] w fun e w' => ∃ v', e = .returned (.agg (rbc self g cap cur v')) ∧ OutR w.heap.size w' v' (O ++ outs tgt L) ∧ Below w.heap.size w w' := by
  obtain ⟨a1, c1, rfl⟩ := out_shape hO
  obtain ⟨NO, hNO⟩ : ∃ n, O.length = n := ⟨_, rfl⟩
  rw [hNO] at hO ⊢
  have b1 := below_alloc w (.cells (rbc self g cap cur (.slice a1 NO c1)) 41)
  have b2 := below_alloc (w.alloc (.cells (rbc self g cap cur (.slice a1 NO c1)) 41)) (.cells #[.int .i64 0, .slice none 0 0, .int .u64 0, .slice none 0 0] 41)
  have e1 : (w.alloc (.cells (rbc self g cap cur (.slice a1 NO c1)) 41)).heap.size = w.heap.size + 1 := by simp
  have HW0 := hid (b1.trans (b2.mono (by omega)))
  have HB0 : Hid (((w.alloc (.cells (rbc self g cap cur (.slice a1 NO c1)) 41)).alloc (.cells #[.int .i64 0, .slice none 0 0, .int .u64 0, .slice none 0 0] 41)).heap[w.heap.size]? = some (.cells (rbc self g cap cur (.slice a1 NO c1)) 41 (0, 0))) := heap_alloc2_old w _ _
  have HR0 : Hid (((w.alloc (.cells (rbc self g cap cur (.slice a1 NO c1)) 41)).alloc (.cells #[.int .i64 0, .slice none 0 0, .int .u64 0, .slice none 0 0] 41)).heap[w.heap.size + 1]? = some (.cells #[.int .i64 0, .slice none 0 0, .int .u64 0, .slice none 0 0] 41 (0, 0))) := heap_alloc2_new w _ _
  have HSZ : Hid (((w.alloc (.cells (rbc self g cap cur (.slice a1 NO c1)) 41)).alloc (.cells #[.int .i64 0, .slice none 0 0, .int .u64 0, .slice none 0 0] 41)).heap.size = w.heap.size + 2) := by show _ = _; simp
  have HP0 := hid (hL.below HW0.out hx)
  have HO0 : Hid (OutR B1 _ (.slice a1 NO c1) O) := hid (OutR.below hO HW0.out)
  have HEn := hid (fun (p : Pk) (W : World) (h : p ∈ L) => rencode_any p W (h64 p h).1 (h64 p h).2)
  have HX := hid hx
  have HN := hid hn
  have HNO := hid hNO
  have HO6 := hid hO6
  obtain ⟨RB, hRB⟩ : ∃ C, rbc self g cap cur (.slice a1 NO c1) = C := ⟨_, rfl⟩
  have HRB := hid hRB
  rw [hRB] at HW0 HB0 HR0 HSZ HP0 HO0 ⊢
  have hnz : (n : Int) ≤ 1000 := by omega
  clear b1 b2 e1 hRB hn hO hL hx h64 hO6 hNO
  go_enter Tryz.func53, Tryz.ntmps53
  go_upto_region 1 with fail
  generalize (w.alloc (.cells RB 41)).alloc (.cells #[.int .i64 0, .slice none 0 0, .int .u64 0, .slice none 0 0] 41) = w2 at *
  have hb2 := below_alloc w2 (.cells #[] 91)
  have HB3 := hid ((hb2.block _ (by rw [HSZ.out]; omega)).trans HB0.out)
  have HR3 := hid ((hb2.block _ (by rw [HSZ.out]; omega)).trans HR0.out)
  have HP3 := hid (HP0.out.below hb2 (fun a e => by have := HX.out a e; rw [HSZ.out]; omega))
  have HW3 := hid (HW0.out.trans (hb2.mono HW0.out.size))
  obtain ⟨v', W', hr, ho, hbl⟩ := outr_join (out_empty (heap_alloc_new w2 (.cells #[] 91))) (OutR.below HO0.out hb2) (by simp) (by simp) (by rw [HNO.out]; have := HO6.out; rw [HNO.out] at this; omega)
  rw [List.nil_append] at ho
  obtain ⟨a2, c2, rfl⟩ := out_shape ho
  have HR := hid hr
  have HL4 : Hid (La w W' self g cap cur (.slice a1 NO c1) x L (.slice a2 O.length c2) O) := by
    have hsz : w2.heap.size = w.heap.size + 2 := HSZ.out
    refine ⟨by rw [HRB.out]; exact (hbl.block _ (by omega)).trans HB3.out, ⟨_, (hbl.block _ (by omega)).trans HR3.out, rfl⟩, HP3.out.below hbl (fun a e => by have := HX.out a e; omega), ho.mono (by omega), HW3.out.trans (hbl.mono (by omega)), by have := hbl.size; simp at this; omega⟩
  have c3 : (w2.alloc (.cells #[] 91)).cell? ⟨w.heap.size, 3, none⟩ = some (.slice a1 NO c1) := by
    have h := HB3.out
    rw [← HRB.out] at h
    exact cell_of_row _ _ 3 _ _ _ h
  rw [HNO.out] at HR HL4
  clear hb2 HB3 HR3 HP3 HW3 hr ho hbl HB0 HR0 HP0 HO0 HW0
  go_wp2_with (at_builtin; go_loud (refine wpList_append_run rfl _ _ 39 rfl _ _ _ _ rfl rfl HR.out ?_))
  clear c3 HR
  go_loopw [7, 8] (fun c7 c8 wr => ∃ (k : Nat) (aq : Option Addr) (Nq cq : Nat), c8 = .int .i64 (k : Int) ∧ k ≤ n ∧ c7 = .slice aq Nq cq ∧ Nq = NO + k ∧ Hid (La w wr self g cap cur (.slice a1 NO c1) x L (.slice aq Nq cq) (O ++ outs tgt (L.take k)))) (fun _ i _ => n - (intOf i).toNat)
  case atStart => exact ⟨0, a2, NO, c2, rfl, Nat.zero_le _, rfl, rfl, by have := HL4.out; unfold outs; rw [List.take_zero, List.map_nil, List.append_nil]; exact this⟩
  case round =>
    clear HL4
    obtain ⟨k, aq, Nq, cq, rfl, hk, rfl, hNq, HLa⟩ := hrel
    have HNq := hid hNq
    clear hNq
    by_cases hlt : k < n
    · have hkz : (k : Int) < (n : Int) := by omega
      have hkL : k < L.length := by have := HN.out; omega
      obtain ⟨pb, po, rfl, hpl, h1⟩ := HLa.out.pk (fun e => by rw [e] at hkL; exact absurd hkL (Nat.not_lt_zero _))
      obtain ⟨p, hp⟩ : ∃ p, L[k] = p := ⟨_, rfl⟩
      have g0 := h1 k hkL
      rw [hp] at g0
      have HG := hid g0
      have iP := infoPl p
      have hta : (pkCells p).toList.toArray = pkCells p := Array.toArray_toList
      have HEp := hid (fun W => HEn.out p W (by rw [← hp]; exact List.getElem_mem hkL))
      have HTk := hid (outs_take tgt L hkL)
      rw [hp] at HTk
      obtain ⟨PC, hPC⟩ : ∃ C, pkCells p = C := ⟨_, rfl⟩
      rw [hPC] at HG iP hta HEp
      obtain ⟨es, hes⟩ : ∃ s, encS p = s := ⟨_, rfl⟩
      rw [hes] at HEp HTk
      obtain ⟨ee, hee⟩ : ∃ s, encE p = s := ⟨_, rfl⟩
      rw [hee] at HEp
      clear h1 g0 hPC hp hes hee hkL
      go_wp2_with (refine wpList_load_mid rfl 53 _ rfl pb (po + k * 261) rfl _ _ HG.out Tryz.underlying53 rfl iP ?_; rw [hta])
      refine (HEp.out _).mono ?_; rintro r w5 ⟨rfl, hb5⟩
      have HL5 := hid (HLa.out.fresh (hb5.mono HLa.out.sz) HX.out (HLa.out.out.below hb5))
      have hb6 := below_alloc w5 (.cells #[.int .i64 tgt, .string ⟨es.toArray⟩] 91)
      have HL6 := hid (HL5.out.fresh (hb6.mono HL5.out.sz) HX.out (HL5.out.out.below hb6))
      obtain ⟨v', W', hr, ho, hbl⟩ := outr_join HL6.out.out (out_new w5 tgt es) (by have := HL5.out.sz; simp; omega) (by have := HO6.out; have := HNO.out; have := HN.out; simp [outs]; omega) (by simp)
      have HL7 := hid (HL6.out.fresh hbl HX.out ho)
      obtain ⟨a3, c3, rfl⟩ := out_shape ho
      have hlen : (O ++ outs tgt (L.take k) ++ [(tgt, es)]).length = Nq + 1 := by
        have := HNO.out
        have := HN.out
        have := HNq.out
        simp [outs]
        omega
      have HR := hid hr
      rw [hlen] at HR HL7
      rw [List.append_assoc, ← HTk.out] at HL7
      clear hb5 hb6 hr ho hbl HL5 HL6 hlen HEp HG
      go_wp2_with (at_builtin; refine wpList_append_run rfl _ _ 39 rfl _ _ _ _ rfl rfl HR.out ?_)
      go_roundw
      case rel => exact ⟨k + 1, a3, Nq + 1, c3, by go_num, by omega, rfl, by have := HNq.out; omega, HL7.out⟩
      case measure => simp [intOf]; omega
    · obtain rfl : k = n := by omega
      have hall : L.take k = L := by rw [← HN.out, List.take_length]
      rw [hall] at HLa
      obtain ⟨C4, hC4, hC4s⟩ := HLa.out.res
      have HC4 := hid hC4
      have HRb := hid HLa.out.rb
      have c3 : wr.cell? ⟨w.heap.size, 3, none⟩ = some (.slice a1 NO c1) := cell_of_row _ _ 3 _ _ _ HRb.out
      have f3 : wr.frozen? ⟨w.heap.size, 3, none⟩ = false := by simp [World.frozen?, HRb.out]
      have HRb2 : Hid ((wr.setCell ⟨w.heap.size, 3, none⟩ (.slice aq Nq cq)).heap[w.heap.size]? = some (.cells (rbc self g cap cur (.slice aq Nq cq)) 41 (0, 0))) := heap_setCell_same wr w.heap.size 3 _ _ _ HRb.out
      have HC5 : Hid ((wr.setCell ⟨w.heap.size, 3, none⟩ (.slice aq Nq cq)).heap[w.heap.size + 1]? = some (.cells C4 41 (0, 0))) := (Below.heap_setCell _ _ _ _ (by show w.heap.size + 1 ≠ w.heap.size; omega)).trans HC4.out
      have HW5 := hid (HLa.out.bel.setCell (p := ⟨w.heap.size, 3, none⟩) (Nat.le_refl _) (.slice aq Nq cq))
      obtain ⟨RB2, hRB2⟩ : ∃ C, rbc self g cap cur (.slice aq Nq cq) = C := ⟨_, rfl⟩
      have iR : (Tryz.prog.info? 41).map (·.size) = some RB2.size := by rw [← hRB2]; exact infoRB rfl
      have oR : RB2.all (·.oneCell') = true := by rw [← hRB2]; exact rbc_one _ _ _ _ _ rfl
      have hs2 : RB2.size = 4 := by rw [← hRB2]; rfl
      have z4 : C4.size = RB2.size := by rw [hC4s, hs2]
      have HS2 := hid hs2
      have HE2 := hid hRB2
      rw [hRB2] at HRb2
      have HFin : Hid (OutR w.heap.size ((wr.setCell ⟨w.heap.size, 3, none⟩ (.slice aq Nq cq)).setRow (w.heap.size + 1) RB2) (.slice aq Nq cq) (O ++ outs tgt L)) := by
        obtain ⟨h1, h2⟩ := HLa.out.out
        refine ⟨h1, ?_⟩
        rcases h2 with h2 | ⟨gg, cp, cur', hv, hg, hh, r⟩
        · exact .inl h2
        · exact .inr ⟨gg, cp, cur', hv, by omega, (setRow_other _ _ _ _ (by omega)).trans ((Below.heap_setCell _ _ _ _ (by show gg ≠ w.heap.size; omega)).trans hh), r⟩
      have HW6 := hid (below_setRow HW5.out (show w.heap.size ≤ w.heap.size + 1 by omega) RB2)
      clear hC4 hC4s hRB2 hs2 hall HLa HC4
      go_wp2_with (first | (refine wpList_load_row rfl 41 _ rfl w.heap.size rfl 41 _ (0, 0) _ HRb2.out Tryz.underlying41 rfl iR ?_) | (refine wpList_store_row rfl 41 _ _ rfl (w.heap.size + 1) RB2 rfl rfl 41 _ HC5.out iR z4 oR ?_))
      refine bodyPost_ret (v := .agg RB2) ?_ rfl ?_
      · exact ret_rb rfl HS2.out rfl (setRow_heap _ _ _ _ _ _ HC5.out)
      exact ⟨.slice aq Nq cq, by rw [HE2.out], HFin.out, HW6.out⟩

end Go.Proofs.YtbfllifgmlkndaaGreatDoor

namespace Go.Proofs.YtbfllifgmlkndaaGreatDoor
open Go.RowKit Go.Shelf
open Slot

theorem beat_find (v : Vw) (p : Pk) : ∀ (f k : Nat), beatV v p f k = ((List.range' k f).find? (worse v p)).map v.own
  | 0, _ => rfl
  | f + 1, k => by
    unfold beatV
    rw [List.range'_succ, List.find?_cons]
    cases h : worse v p k with
    | true => simp
    | false => simp [beat_find v p f (k + 1)]
/-- has another one this slot at a greater epoch? -/
def wb (v : Vw) (p : Pk) (s : Nat) : Bool := decide (v.own s ≠ 64) && decide (v.own s ≠ p.frm.toNat) && decide (p.epoch < v.ep (v.own s))
theorem worse_wb (v : Vw) (p : Pk) (s : Nat) : worse v p s = (p.cl s && wb v p s) := by
  unfold worse wb
  simp [Bool.and_assoc]
theorem beat_slots (v : Vw) (p : Pk) : beatV v p top 0 = ((slots p.cl).find? (wb v p)).map v.own := by
  rw [beat_find]
  unfold slots
  rw [List.find?_filter]
  congr 2
  funext s
  rw [worse_wb]
  cases p.cl s <;> cases wb v p s <;> rfl
theorem beat_first {v : Vw} {p : Pk} {pre q : List Nat} {x : Nat} (h : pre <+: slots p.cl) (he : pre = q ++ [x]) (hq : ∀ s ∈ q, wb v p s = false) (hx : wb v p x = true) : beatV v p top 0 = some (v.own x) := by
  obtain ⟨r, hr⟩ := h
  rw [beat_slots, ← hr, he, List.find?_append, List.find?_append, List.find?_eq_none.2 (fun s hs => by rw [hq s hs]; decide)]
  simp [hx]
theorem beat_no {v : Vw} {p : Pk} (hq : ∀ s ∈ slots p.cl, wb v p s = false) : beatV v p top 0 = none := by
  rw [beat_slots, List.find?_eq_none.2 (fun s hs => by rw [hq s hs]; decide)]
  rfl

end Go.Proofs.YtbfllifgmlkndaaGreatDoor
