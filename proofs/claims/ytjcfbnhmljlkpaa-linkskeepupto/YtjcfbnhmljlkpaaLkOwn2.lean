/- ownList: the walk. -/
import Derived.Test.YtjcfbnhmljlkpaaLkOwn
namespace Go.Proofs.Ytjcfbnhmljlkpaa
open Go.RowKit

set_option maxHeartbeats 4000000 in
set_option maxRecDepth 100000 in
theorem own_of (d : Nat) (ih : ∀ e, e < d → OwnAt e) : OwnAt d := by
  intro p l c w h hs
  obtain ⟨n, hn⟩ : ∃ n, l.length = n := ⟨_, rfl⟩
  have HN := hid hn
  have hl50 : n ≤ 50 := by have := hs.1; omega
  have HC := hid (cloneR_any p l c d w h (by have := hs.1; omega))
  have HS := hid hs
  have HIH := hid ih
  rw [hn] at HC ⊢
  clear h hs ih hn
  go_enter Try.func34, Try.ntmps34
  go_wp2_with fail
  refine HC.out.mono ?_; rintro e w2 ⟨q, d2, f, rfl, hh⟩
  have hown := hh.out.1
  have HB2 := hid hh.out.2.2.1
  have HR := hid hh.out.2.2.2
  rw [HN.out]
  clear hh HC
  by_cases h0 : n = 0
  · subst h0
    have HL0 : Hid (l = []) := List.length_eq_zero_iff.1 HN.out
    clear hown
    go_wp2_with fail
    go_loopw [8] (fun v8 W => v8 = .int .i64 0 ∧ W = w2) (fun _ _ => 0)
    case atStart => exact ⟨rfl, rfl⟩
    case round =>
      obtain ⟨rfl, rfl⟩ := hrel
      go_wp2_with fail
      go_ret
      exact ⟨q, d2, by rw [HN.out]; rfl, by rw [HL0.out]; exact RowOf.nil _ _ _ _, HB2.out⟩
  obtain ⟨g, q', d', he, hg⟩ := own_info hown
  injection he with e1 e2 e3
  subst e1 e3
  obtain ⟨hq, hgN, hg2, -⟩ := hg (by rw [HN.out]; exact h0)
  subst hq
  have HO := hid (OL.start (d := d) hown)
  have Hg2 := hid hg2
  have HgN := hid hgN
  clear hown hg e2 hgN hg2
  go_wp2_with fail
  go_loopw [8] (fun v8 W => ∃ (i : Nat) (f' : Nat → Option Addr × Nat), v8 = .int .i64 (i : Int) ∧ i ≤ n ∧ Hid (OL g l d f f' i w2 W)) (fun v8 _ => n - (intOf v8).toNat)
  case atStart => exact ⟨0, f, rfl, Nat.zero_le _, HO.out⟩
  case round =>
    obtain ⟨i, f', rfl, hi, HOL⟩ := hrel
    by_cases hlt : i < n
    · have hiz : (i : Int) < (n : Int) := by omega
      have hiL : i < l.length := by have := HN.out; omega
      obtain ⟨-, -, -, c3⟩ := HOL.out.cells i hiL
      rw [HOL.out.todo i (Nat.le_refl _)] at c3
      obtain ⟨e, p1, cc, hde, heq, hfit, hrow⟩ := (HR.out i hiL).open
      have hp1 : (f i).1 = p1 := by
        injection heq with h1
        have := congrArg (·[3]?) h1
        simp at this
        exact this.1
      rw [← hp1] at hrow
      obtain ⟨k, hk⟩ := HS.out.2 l[i] (List.getElem_mem hiL)
      have hW : ∀ b, b < w.heap.size → wr.heap[b]? = w.heap[b]? := fun b hb => by
        rw [HOL.out.block b (by have := HB2.out.size; omega) (by have := HgN.out; omega)]
        exact HB2.out.block b hb
      have HI := hid (HIH.out e (by omega) (f i).1 l[i].list (f i).2 wr (hrow.turn (fun b _ hb => ⟨trivial, hW b hb⟩) (Nat.le_refl _)) (SmL.of hk))
      obtain ⟨m, hm⟩ : ∃ m, l[i].list.length = m := ⟨_, rfl⟩
      have HM := hid hm
      rw [hm] at c3 HI
      obtain ⟨fp, hfp⟩ : ∃ x, (f i).1 = x := ⟨_, rfl⟩
      obtain ⟨fc, hfc⟩ : ∃ x, (f i).2 = x := ⟨_, rfl⟩
      rw [hfp, hfc] at c3 HI
      have hde' : e + 1 ≤ d := by omega
      have hgW := HOL.out.glt
      have C3 := hid c3
      have HDE := hid hde'
      clear heq hfit hrow hp1 hk hm hfp hfc hde hW hde'
      go_wp2_with fail
      refine HI.out.mono ?_; rintro _ w3 ⟨q3, d3, rfl, hh3⟩
      have h3 : w3.cell? ⟨g, i * 4 + 3, none⟩ = some (.slice fp m fc) := cell_turn C3.out (hh3.out.2.block g hgW)
      have f3 : w3.frozen? ⟨g, i * 4 + 3, none⟩ = false := by
        obtain ⟨Z, hZ⟩ := HOL.out.blk
        exact frozen_of_row w3 g _ Z _ ((hh3.out.2.block g hgW).trans hZ)
      obtain ⟨f'', hst⟩ := HOL.out.step (c := d3) Hg2.out hiL hh3.out.2 HDE.out hh3.out.1
      rw [HM.out] at hst ⊢
      have HSt := hid hst
      clear hst hh3 c3 HI
      go_wp2_with fail
      exact ⟨⟨i + 1, f'', by go_num, by omega, HSt.out⟩, by simp [intOf]; omega⟩
    · have hin : i = n := by omega
      subst hin
      go_wp2_with fail
      go_ret
      refine ⟨some ⟨g, 0, none⟩, d2, by rw [HN.out]; rfl, ?_, ?_⟩
      · have := HOL.out
        rw [← HN.out] at this
        exact this.fin HgN.out HB2.out.size (fun r hr => by
          obtain ⟨j, hj, rfl⟩ := List.getElem_of_mem hr
          obtain ⟨_, _, _, _, _, hfit, _⟩ := (HR.out j hj).open
          exact hfit)
      · have L := (HB2.out.mono (Nat.zero_le _)).trans HOL.out.like
        exact ⟨L.os, L.tape, L.output, L.size, fun k hk => (HOL.out.block k (by have := HB2.out.size; omega) (by have := HgN.out; omega)).trans (HB2.out.block k hk)⟩
theorem own_any : ∀ d, OwnAt d := fun d => Nat.strongRecOn d (fun d ih => own_of d ih)

end Go.Proofs.Ytjcfbnhmljlkpaa
