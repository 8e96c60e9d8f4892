/- own: a letter whose rows are its own. -/
import Derived.Test.YtjcfbnhmljlkpaaLkOwn2
namespace Go.Proofs.Ytjcfbnhmljlkpaa
open Go.RowKit

theorem ret_lt1 {fn : Func} {p : Tmp} (h : fn.results = #[.cell p 33]) {tmps : Array Value} {w : World} {b : Nat} {C : Array Value} (hC : C.size = 13) (hp : tmps.getD p undef = .pointer (some ⟨b, 0, none⟩)) (hB : w.heap[b]? = some (.cells C 33 (0, 0))) :
    (results fn tmps).run Try.prog w = .ok (.agg C) w :=
  results_cell_row h tmps w b 33 C (0, 0) _ hp hB Try.underlying33 rfl (infoLt C hC)
theorem ret_ltb {fn : Func} {p q : Tmp} (h : fn.results = #[.cell p 33, .tmp q]) {tmps : Array Value} {w : World} {b : Nat} {C : Array Value} {v : Value} (hC : C.size = 13) (hp : tmps.getD p undef = .pointer (some ⟨b, 0, none⟩)) (hq : tmps.getD q undef = v) (hB : w.heap[b]? = some (.cells C 33 (0, 0))) :
    (results fn tmps).run Try.prog w = .ok (.tuple #[.agg C, v]) w := by
  have hp' : tmps[p]?.getD undef = .pointer (some ⟨b, 0, none⟩) := by simpa using hp
  have hq' : tmps[q]?.getD undef = v := by simpa using hq
  simp [results, h, hp', hq', asAddr, run_loadVar_row w b 33 33 C (0, 0) _ hB Try.underlying33 rfl (infoLt C hC)]
theorem own_keepCells {W W' : World} {b : Nat} {C : Array Value} {t : TypeId} (h : W.heap[b]? = some (.cells C t (0, 0))) (hb : Below W.heap.size W W') : W'.heap[b]? = some (.cells C t (0, 0)) :=
  (hb.block b (Array.getElem?_eq_some_iff.1 h).1).trans h
set_option maxHeartbeats 4000000 in
set_option maxRecDepth 100000 in
theorem own_lt (x : Lt) (ap : Option Addr) (ac : Nat) (rp : Option Addr) (rc : Nat) (w : World) (hx : LtR All w x ap rp) (hf : FewL x) :
    Calls Try.prog 24 #[.agg (ltC x ap ac rp rc)] w fun e w' => ∃ q d q2 d2, e = .returned (.agg (ltC x q d q2 d2)) ∧ Hid (LtR (fun k => w.heap.size ≤ k) w' x q q2 ∧ Below w.heap.size w w') := by
  have H := hid hx
  have HF := hid hf
  clear hx hf
  unfold ltC
  go_enter Try.func24, Try.ntmps24
  go_upto_region 1 with fail
  generalize hw1 : (w.alloc _).alloc _ = w1
  have hX : w1.heap[w.heap.size]? = some (.cells (ltC x ap ac rp rc) 33 (0, 0)) := by rw [← hw1]; exact ((below_alloc _ _).block _ (by simp)).trans (heap_alloc_new w _)
  have hZ : w1.heap[w.heap.size + 1]? = some (.cells zeroL 33 (0, 0)) := by
    rw [← hw1]
    have := heap_alloc_new (w.alloc (.cells (ltC x ap ac rp rc) 33)) (.cells zeroL 33)
    rw [World.size_alloc] at this
    exact this
  have hb1 : Below w.heap.size w w1 := by rw [← hw1]; exact (below_alloc w _).trans ((below_alloc _ _).mono (by simp))
  have hs1 : w.heap.size + 2 ≤ w1.heap.size := by have := (Array.getElem?_eq_some_iff.1 hZ).1; omega
  have HX := hid hX
  have HZ := hid hZ
  have HB1 := hid hb1
  have HS1 := hid hs1
  have HLx := hid (H.out.below hb1 (Nat.le_refl _))
  have HC := hid (cloneS_any ap x.args ac w1 HLx.out.args (by have := HF.out.2; omega))
  obtain ⟨n, hn⟩ : ∃ n, x.args.length = n := ⟨_, rfl⟩
  have HN := hid hn
  rw [hn] at HC
  have x6 : w1.cell? ⟨w.heap.size, 6, none⟩ = some (.slice ap n ac) := by rw [cell_of_row w1 _ 6 _ _ _ hX, ← hn]; rfl
  clear hw1 hX hZ hb1 hn hs1
  go_wp2_with fail
  refine HC.out.mono ?_; rintro e w2 ⟨q, d, rfl, hh⟩
  rw [HN.out]
  have HT := hid hh.out.1
  have HB2 := hid hh.out.2.2
  have hX2 := own_keepCells HX.out hh.out.2.2
  have z6 : w2.cell? ⟨w.heap.size, 6, none⟩ = some (.slice ap n ac) := cell_turn x6 (HB2.out.block _ (by have := HS1.out; omega))
  have f6 : w2.frozen? ⟨w.heap.size, 6, none⟩ = false := frozen_of_row w2 _ 6 _ _ hX2
  have HX2 := hid hX2
  clear hh HC x6 hX2
  go_upto_region 2 with fail
  generalize hw3 : w2.setCell _ _ = w3
  have hX3 : w3.heap[w.heap.size]? = some (.cells (ltC x q d rp rc) 33 (0, 0)) := by
    rw [← hw3, heap_setCell_same w2 _ _ _ _ _ HX2.out, ← HN.out]
    rfl
  have hk3 : ∀ k, k ≠ w.heap.size → w3.heap[k]? = w2.heap[k]? := fun k hk => by rw [← hw3]; exact heap_setCell_other _ _ _ _ hk
  have hb3 : Below w.heap.size w2 w3 := by rw [← hw3]; exact (Below.refl w.heap.size w2).setCell (p := ⟨w.heap.size, 6, none⟩) (Nat.le_refl _) _
  have hs2 := HB2.out.size
  have hs3 := hb3.size
  have hZ3 : w3.heap[w.heap.size + 1]? = some (.cells zeroL 33 (0, 0)) := (hk3 _ (by omega)).trans (own_keepCells HZ.out HB2.out)
  have HX3 := hid hX3
  have HZ3 := hid hZ3
  have HK3 := hid hk3
  have HB3 := hid hb3
  have HS3 := hid hs3
  have HS2 := hid hs2
  obtain ⟨dd, hr⟩ := H.out.list
  have hr3 : RowOf All w3 (Rp All w3 dd) rp x.reply.list := hr.turn (fun b _ hb => ⟨trivial, (hk3 b (by omega)).trans ((HB2.out.block b (by have := HS1.out; omega)).trans (HB1.out.block b hb))⟩) (Nat.le_refl _)
  have HO := hid (own_any dd rp x.reply.list rc w3 hr3 (SmL.of HF.out.1))
  obtain ⟨m, hm⟩ : ∃ m, x.reply.list.length = m := ⟨_, rfl⟩
  have HM := hid hm
  rw [hm] at HO
  have x10 : w3.cell? ⟨w.heap.size, 10, none⟩ = some (.slice rp m rc) := by rw [cell_of_row w3 _ 10 _ _ _ hX3, ← hm]; rfl
  clear hw3 hX3 hk3 hb3 hs2 hs3 hZ3 hr hr3 hm z6 f6
  go_wp2_with fail
  refine HO.out.mono ?_; rintro e w4 ⟨q2, d2, rfl, hh⟩
  rw [HM.out]
  have HR := hid hh.out.1
  have HB4 := hid hh.out.2
  have hX4 := own_keepCells HX3.out hh.out.2
  have z10 : w4.cell? ⟨w.heap.size, 10, none⟩ = some (.slice rp m rc) := cell_turn x10 (HB4.out.block _ (by have := HS1.out; have := HS2.out; have := HS3.out; omega))
  have f10 : w4.frozen? ⟨w.heap.size, 10, none⟩ = false := frozen_of_row w4 _ 10 _ _ hX4
  have HX4 := hid hX4
  clear hh HO x10 hX4
  go_upto_region 3 with fail
  generalize hw5 : w4.setCell _ _ = w5
  have hX5 : w5.heap[w.heap.size]? = some (.cells (ltC x q d q2 d2) 33 (0, 0)) := by
    rw [← hw5, heap_setCell_same w4 _ _ _ _ _ HX4.out, ← HM.out]
    rfl
  have hk5 : ∀ k, k ≠ w.heap.size → w5.heap[k]? = w4.heap[k]? := fun k hk => by rw [← hw5]; exact heap_setCell_other _ _ _ _ hk
  have hb5 : Below w.heap.size w4 w5 := by rw [← hw5]; exact (Below.refl w.heap.size w4).setCell (p := ⟨w.heap.size, 10, none⟩) (Nat.le_refl _) _
  have hZ5 : w5.heap[w.heap.size + 1]? = some (.cells zeroL 33 (0, 0)) := (hk5 _ (by omega)).trans (own_keepCells HZ3.out HB4.out)
  have HX5 := hid hX5
  have HZ5 := hid hZ5
  have hL5 : LtR (fun k => w1.heap.size ≤ k) w5 x q q2 := by
    have s1 := HS1.out
    have s2 := HS2.out
    have s3 := HS3.out
    have s4 := HB4.out.size
    refine ⟨?_, ⟨dd, ?_⟩, H.out.fit⟩
    · exact HT.out.turn (fun b hb hlt => ⟨hb, (hk5 b (by omega)).trans ((HB4.out.block b (by omega)).trans (HK3.out b (by omega)))⟩)
    · exact HR.out.turn (fun b hb hlt => ⟨by omega, hk5 b (by omega)⟩) (Nat.le_refl _)
  have hB5 : Below w.heap.size w w5 := (((HB1.out.trans (HB2.out.mono (by have := HS1.out; omega))).trans HB3.out).trans (HB4.out.mono (by have := HS1.out; have := HS2.out; have := HS3.out; omega))).trans hb5
  have HL5 := hid hL5
  have HB5 := hid hB5
  obtain ⟨CA, hCA⟩ : ∃ C, ltC x q d q2 d2 = C := ⟨_, rfl⟩
  have hCs : CA.size = 13 := by rw [← hCA]; rfl
  have hC1 : CA.all (·.oneCell') = true := by rw [← hCA]; exact ltC_one _ _ _ _ _
  have iC := infoLt CA hCs
  have HCA := hid hCA
  rw [hCA] at HX5
  clear hw5 hX5 hk5 hb5 hZ5 hL5 hB5 hCA z10 f10
  go_wp2_with (first
    | (refine wpList_load_row rfl 33 _ rfl w.heap.size rfl 33 CA (0, 0) _ HX5.out Try.underlying33 rfl iC (Hid.out ?_); refine hid ?_)
    | (refine wpList_store_row rfl 33 _ _ rfl (w.heap.size + 1) CA rfl rfl 33 zeroL HZ5.out iC (by rw [hCs]; rfl) hC1 (Hid.out ?_); refine hid ?_))
  refine bodyPost_ret (v := .agg CA) (ret_lt1 rfl hCs rfl (setRow_heap _ _ _ _ _ _ HZ5.out)) rfl ⟨q, d, q2, d2, (by rw [← HCA.out]; rfl), ?_, below_setRow HB5.out (by omega) _⟩
  exact HL5.out.turn (fun b hb hlt => ⟨(by have := HS1.out; omega), setRow_other _ _ _ _ (by have := HS1.out; omega)⟩)

end Go.Proofs.Ytjcfbnhmljlkpaa
