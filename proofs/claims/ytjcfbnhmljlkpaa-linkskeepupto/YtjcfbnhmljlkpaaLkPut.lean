/- A letter is laid behind a row; the first of a row is taken. -/
import Derived.Test.YtjcfbnhmljlkpaaLkB
namespace Go.Proofs.Ytjcfbnhmljlkpaa
open Go.RowKit

def PutP (rb : Nat) (l : List Pc) (x : Lt) (ap : Option Addr) (ac : Nat) (rp : Option Addr) (rc : Nat) (w : World) (e : Ending) (w' : World) : Prop :=
  e = .returned (.tuple #[]) ∧ Hid (∃ nb, w.heap.size ≤ nb ∧ nb < w'.heap.size ∧ Chain w' (l ++ [⟨nb, x, ap, ac, rp, rc⟩]) ∧ RowB w' rb (l ++ [⟨nb, x, ap, ac, rp, rc⟩]) ∧ Below 0 w w' ∧ ∀ k, k < w.heap.size → k ≠ rb → k ∉ l.map Pc.b → w'.heap[k]? = w.heap[k]?)
theorem row_two {w : World} {rb : Nat} {l : List Pc} {p : Pc} (h : w.heap[rb]? = some (.cells (rowC (fstA (l ++ [p])) (lstA l) l.length) 63 (0, 0))) : RowB ((w.setCell ⟨rb, 1, none⟩ (.pointer (some ⟨p.b, 0, none⟩))).setCell ⟨rb, 2, none⟩ (.int .i64 ((l.length : Int) + 1))) rb (l ++ [p]) := by
  unfold RowB
  have h1 := heap_setCell_same w rb 1 _ _ (.pointer (some ⟨p.b, 0, none⟩)) h
  rw [heap_setCell_same _ rb 2 _ _ _ h1, lstA_push, List.length_append]
  rfl
set_option maxHeartbeats 4000000 in
set_option maxRecDepth 100000 in
theorem put_any (rb : Nat) (l : List Pc) (x : Lt) (ap : Option Addr) (ac : Nat) (rp : Option Addr) (rc : Nat) (w : World) (hR : RowB w rb l) (hC : Chain w l) (hd : (l.map Pc.b).Nodup) (hl : l.length ≤ 100000) :
    Calls Try.prog 23 #[ptr rb, .agg (ltC x ap ac rp rc)] w (PutP rb l x ap ac rp rc w) := by
  have HR := hid hR
  have HC := hid hC
  have HD := hid hd
  obtain ⟨N, hN⟩ : ∃ N, l.length = N := ⟨_, rfl⟩
  have HN := hid hN
  rw [hN] at hl
  have hNz : (N : Int) ≤ 100000 := by omega
  clear hR hC hd hN
  unfold ltC
  go_enter Try.func23, Try.ntmps23
  go_upto_region 2 with fail
  generalize hw1 : (w.alloc _).alloc _ = w1
  have hb1 : Below w.heap.size w w1 := by rw [← hw1]; exact (below_alloc w _).trans ((below_alloc _ _).mono (by simp))
  have hP : w1.heap[w.heap.size + 1]? = some (.cells (plC x ap ac rp rc none) 65 (0, 0)) := by
    rw [← hw1]
    have := heap_alloc_new (w.alloc (.cells (ltC x ap ac rp rc) 33)) (.cells (plC x ap ac rp rc none) 65)
    rw [World.size_alloc] at this
    exact this
  have hrb : rb < w.heap.size := (Array.getElem?_eq_some_iff.1 HR.out).1
  have hR1 : RowB w1 rb l := (hb1.block rb hrb).trans HR.out
  have HC1 := hid (HC.out.turn (fun p hp => hb1.block _ (HC.out.lt p hp)))
  have HP := hid hP
  have HB1 := hid hb1
  have HR1 := hid hR1
  have Hrb := hid hrb
  have hs1 := (Array.getElem?_eq_some_iff.1 hP).1
  have HS1 := hid hs1
  obtain ⟨nb, hnb⟩ : ∃ nb, w.heap.size + 1 = nb := ⟨_, rfl⟩
  have Hnb := hid hnb
  rw [hnb] at HP HS1
  have hnr : rb ≠ nb := by omega
  have Hnr := hid hnr
  have fin : ∀ (W : World), Below 0 w1 W → Chain W (l ++ [⟨nb, x, ap, ac, rp, rc⟩]) → W.heap[rb]? = some (.cells (rowC (fstA (l ++ [⟨nb, x, ap, ac, rp, rc⟩])) (lstA l) l.length) 63 (0, 0)) → (∀ k, k < w1.heap.size → k ≠ rb → k ∉ l.map Pc.b → W.heap[k]? = w1.heap[k]?) →
      PutP rb l x ap ac rp rc w (.returned (.tuple #[])) ((W.setCell ⟨rb, 1, none⟩ (.pointer (some ⟨nb, 0, none⟩))).setCell ⟨rb, 2, none⟩ (.int .i64 ((N : Int) + 1))) := by
    intro W hb hc hr hk
    rw [← HN.out]
    have hoth : ∀ k, k ≠ rb → ((W.setCell ⟨rb, 1, none⟩ (.pointer (some ⟨nb, 0, none⟩))).setCell ⟨rb, 2, none⟩ (.int .i64 ((l.length : Int) + 1))).heap[k]? = W.heap[k]? := fun k hne => by
      rw [heap_setCell_other _ _ _ _ hne, heap_setCell_other _ _ _ _ hne]
    refine ⟨rfl, nb, by have := Hnb.out; omega, ?_, ?_, row_two (p := ⟨nb, x, ap, ac, rp, rc⟩) hr, ?_, fun k h1 h2 h3 => ?_⟩
    · have h1 := hb.size
      have h2 := HS1.out
      have h3 := ((Below.refl 0 W).setCell (p := ⟨rb, 1, none⟩) (Nat.zero_le _) (.pointer (some ⟨nb, 0, none⟩))).setCell (p := ⟨rb, 2, none⟩) (Nat.zero_le _) (.int .i64 ((l.length : Int) + 1))
      have h4 := h3.size
      omega
    · refine hc.turn (fun p hp => hoth _ (fun e => ?_))
      obtain ⟨n, hn⟩ := hc.shape p hp
      rw [e, hr] at hn
      injection hn with hn
      injection hn with _ hn
      exact absurd hn (by decide)
    · exact ((HB1.out.mono (Nat.zero_le _)).trans hb).trans (((Below.refl 0 W).setCell (p := ⟨rb, 1, none⟩) (Nat.zero_le _) _).setCell (p := ⟨rb, 2, none⟩) (Nat.zero_le _) _)
    · rw [hoth k h2, hk k (by have := HB1.out.size; omega) h2 h3]
      exact HB1.out.block k h1
  have HFin := hid fin
  obtain ⟨c0, c1, c2⟩ := hR1.facts
  obtain ⟨f0, f1, f2⟩ := hR1.froz
  rw [HN.out] at c2
  by_cases h0 : l = []
  · have hz : ((N : Int) == 0) = true := by rw [← HN.out, h0]; rfl
    have H0 := hid h0
    rw [h0] at c0 c1
    simp only [fstA, lstA] at c0 c1
    clear hw1 hb1 hP hrb hR1 hs1 hnr fin h0
    rw [hnb]
    clear hnb
    go_upto_region 5 with fail
    generalize hw2 : w1.setCell _ _ = w2
    have hr2 : w2.heap[rb]? = some (.cells (rowC (some ⟨nb, 0, none⟩) (lstA l) l.length) 63 (0, 0)) := by
      rw [← hw2, heap_setCell_same w1 rb 0 _ _ _ HR1.out]
      rfl
    have hk2 : ∀ k, k ≠ rb → w2.heap[k]? = w1.heap[k]? := fun k hk => by rw [← hw2]; exact heap_setCell_other _ _ _ _ hk
    have hb2 : Below 0 w1 w2 := by rw [← hw2]; exact (Below.refl 0 w1).setCell (p := ⟨rb, 0, none⟩) (Nat.zero_le _) _
    have c1' : w2.cell? ⟨rb, 1, none⟩ = some (.pointer none) := by rw [cell_of_row w2 rb 1 _ _ _ hr2, H0.out]; rfl
    have c2' : w2.cell? ⟨rb, 2, none⟩ = some (.int .i64 N) := by rw [cell_of_row w2 rb 2 _ _ _ hr2, HN.out]; rfl
    have f1' : w2.frozen? ⟨rb, 1, none⟩ = false := frozen_of_row w2 rb 1 _ _ hr2
    have f2' : w2.frozen? ⟨rb, 2, none⟩ = false := frozen_of_row w2 rb 2 _ _ hr2
    have HE := hid (HFin.out w2 hb2 (by rw [H0.out]; exact ⟨(hk2 nb Hnr.out.symm).trans HP.out, trivial⟩) (by rw [hr2, H0.out]; rfl) (fun k _ hk _ => hk2 k hk))
    clear hw2 hr2 hk2 hb2 c0 c1 c2 f0 f1 f2 hz
    go_wp2_with fail
    go_end0
    exact HE.out
  · have hz : ((N : Int) == 0) = false := by
      have : N ≠ 0 := fun e => h0 (List.length_eq_zero_iff.1 (by rw [HN.out, e]))
      simpa using this
    obtain ⟨y, hy, ey, -⟩ := lstA_some h0
    obtain ⟨z, hzy⟩ : ∃ z, y.b = z := ⟨_, rfl⟩
    rw [hzy] at ey
    obtain ⟨n, hsh⟩ := HC1.out.shape y hy
    rw [hzy] at hsh
    have z13 : w1.cell? ⟨z, 13, none⟩ = some (.pointer n) := cell_of_row w1 z 13 _ _ _ hsh
    have g13 : w1.frozen? ⟨z, 13, none⟩ = false := frozen_of_row w1 z 13 _ _ hsh
    have hzr : rb ≠ z := fun e => by
      have h1 := HR1.out
      unfold RowB at h1
      rw [e, hsh] at h1
      injection h1 with h1
      injection h1 with _ h1
      exact absurd h1 (by decide)
    have hzm : z ∈ l.map Pc.b := by rw [← hzy]; exact List.mem_map.2 ⟨y, hy, rfl⟩
    have hnm : nb ∉ l.map Pc.b := fun hc => by
      obtain ⟨q, hq, e⟩ := List.mem_map.1 hc
      have := HC.out.lt q hq
      have := Hnb.out
      omega
    have H0 := hid h0
    have Hey := hid ey
    have Hzr := hid hzr
    have Hzm := hid hzm
    have Hnm := hid hnm
    rw [ey] at c1
    clear hw1 hb1 hP hrb hR1 hs1 hnr fin h0 hy hzy hsh ey hzr hzm hnm
    rw [hnb]
    clear hnb
    go_upto_region 5 with fail
    generalize hw2 : w1.setCell _ _ = w2
    have hk2 : ∀ k, k ≠ z → w2.heap[k]? = w1.heap[k]? := fun k hk => by rw [← hw2]; exact heap_setCell_other _ _ _ _ hk
    have hr2 : w2.heap[rb]? = some (.cells (rowC (fstA l) (lstA l) l.length) 63 (0, 0)) := (hk2 rb Hzr.out).trans HR1.out
    have hb2 : Below 0 w1 w2 := by rw [← hw2]; exact (Below.refl 0 w1).setCell (p := ⟨z, 13, none⟩) (Nat.zero_le _) _
    have hch : Chain w2 (l ++ [⟨nb, x, ap, ac, rp, rc⟩]) := by rw [← hw2]; exact Chain.push (p := ⟨nb, x, ap, ac, rp, rc⟩) HP.out HC1.out HD.out Hnm.out Hey.out
    have c1' : w2.cell? ⟨rb, 1, none⟩ = some (.pointer (some ⟨z, 0, none⟩)) := by rw [cell_of_row w2 rb 1 _ _ _ hr2, Hey.out]; rfl
    have c2' : w2.cell? ⟨rb, 2, none⟩ = some (.int .i64 N) := by rw [cell_of_row w2 rb 2 _ _ _ hr2, HN.out]; rfl
    have f1' : w2.frozen? ⟨rb, 1, none⟩ = false := frozen_of_row w2 rb 1 _ _ hr2
    have f2' : w2.frozen? ⟨rb, 2, none⟩ = false := frozen_of_row w2 rb 2 _ _ hr2
    have HE := hid (HFin.out w2 hb2 hch (by rw [hr2, fstA_push _ H0.out]) (fun k _ _ hk => hk2 k (fun e => hk (by rw [e]; exact Hzm.out))))
    clear hw2 hr2 hk2 hb2 hch c0 c1 c2 f0 f1 f2 hz z13 g13
    go_wp2_with fail
    go_end0
    exact HE.out

end Go.Proofs.Ytjcfbnhmljlkpaa
