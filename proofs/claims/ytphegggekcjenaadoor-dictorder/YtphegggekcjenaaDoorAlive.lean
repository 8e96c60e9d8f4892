/- A dict that grows: the law's alive; the law of scripts. -/
import Derived.Test.YtphegggekcjenaaDoorStands
import Derived.Test.YtphegggekcjenaaDoorBegunBig
namespace Go.Proofs.YtphegggekcjenaaDoor
open Go.RowKit

theorem keep_off_below {n : Nat} {w w' w'' : World} {O : Nat → Prop} (h : Below n w w') (k : Keep (Off O) w' w'') (hO : ∀ j, O j → n ≤ j) (hn : n ≤ w'.heap.size) : Below n w w'' :=
  Below.tail h k (fun i hi ho => by have := hO i ho; omega) hn
set_option maxHeartbeats 2000000 in
set_option maxRecDepth 100000 in
/-- alive -/
theorem alive_any {V : World → Prop} {B : Nat} {Dq : World → Nat → (Nat → Prop) → DM Int → Prop} (M : MethI V B Dq) (w : World) (hV : V w) (hB : B ≤ w.heap.size) : Calls Tryd.prog 10 #[] w fun e w' => e = .returned (.bool true) ∧ Hid (Below w.heap.size w w') := by
  have HM := hid M
  have HN := hid (M.new w hV hB)
  clear M hV
  go_enter Tryd.func10, Tryd.ntmps10
  go_wp2_with fail
  refine HN.out.mono ?_; rintro e w1 ⟨b, rfl, hh⟩
  obtain ⟨O0, hO0⟩ := hh.out
  have H1 := hid hO0
  clear hh hO0
  have HF := hid (five_tl w1)
  have HB1 := hid (below_alloc w1 (.cells #[txt [97], txt [98], txt [99], txt [100], txt [101]] 9))
  have HD1 := hid (HM.out.below H1.out.1 HB1.out)
  have HK1 := hid (H1.out.2.2.trans (HB1.out.mono H1.out.2.2.size))
  have HX1 := hid (heap_alloc_new w1 (.cells #[txt [97], txt [98], txt [99], txt [100], txt [101]] 9))
  go_wp2_with fail
  go_loopw [2, 3, 13] (fun _ _ v13 W => ∃ i : Nat, v13 = .int .i64 i ∧ i ≤ 5 ∧ Hid (W.heap[w1.heap.size]? = some (.cells #[txt [97], txt [98], txt [99], txt [100], txt [101]] 9 (0, 0))) ∧ Hid (∃ O, Dq W b O (alD i) ∧ (∀ k, O k → w.heap.size ≤ k ∧ k ≠ w1.heap.size)) ∧ Hid (Below w.heap.size w W)) (fun _ _ v13 _ => 5 - (intOf v13).toNat)
  case atStart => exact ⟨0, rfl, by decide, HX1.out, ⟨O0, HD1.out, fun k hk => ⟨H1.out.2.1 k hk, by have := HM.out.lt H1.out.1 k hk; omega⟩⟩, HK1.out⟩
  case round =>
    obtain ⟨i, rfl, hi, HX, HDD, HW⟩ := hrel
    obtain ⟨O, hO⟩ := HDD.out
    have HDO := hid hO
    clear hO HDD
    have hxl : w1.heap.size < wr.heap.size := (Array.getElem?_eq_some_iff.1 HX.out).1
    by_cases hlt : i < 5
    · have hlz : (i : Int) < 5 := by omega
      obtain ⟨nm, hnm, hcell⟩ : ∃ nm, nm = five.getD i [] ∧ wr.cell? ⟨w1.heap.size, i, none⟩ = some (txt nm) := by
        refine ⟨_, rfl, ?_⟩
        rw [cell_of_row wr _ i _ _ _ HX.out]
        match i, hlt with
        | 0, _ => rfl
        | 1, _ => rfl
        | 2, _ => rfl
        | 3, _ => rfl
        | 4, _ => rfl
      have hnl : nm.length ≤ 140737488351232 := by
        rw [hnm]
        match i, hlt with
        | 0, _ => decide
        | 1, _ => decide
        | 2, _ => decide
        | 3, _ => decide
        | 4, _ => decide
      have HP := hid (HM.out.put b O (alD i) nm i wr HDO.out.1 ((al_small i).mono (by omega)) hnl)
      have HNx : Hid (putD (alD i) nm i = alD (i + 1)) := by rw [Hid, hnm]; rfl
      rw [HNx.out] at HP
      clear hnm
      go_wp2_with fail
      refine HP.out.mono ?_; rintro e w2 ⟨rfl, hh⟩
      obtain ⟨O', h1, h2, h3⟩ := hh.out
      have HX2 := hid ((h3.block w1.heap.size hxl (fun h => (HDO.out.2 _ h).2 rfl)).trans HX.out)
      have HD2 : Hid (∃ O, Dq w2 b O (alD (i + 1)) ∧ (∀ k, O k → w.heap.size ≤ k ∧ k ≠ w1.heap.size)) := ⟨O', h1, fun k hk => by
        rcases h2 k hk with g | g
        · exact HDO.out.2 k g
        · exact ⟨by have := HW.out.size; omega, by omega⟩⟩
      have HW2 := hid (keep_off_below HW.out h3 (fun j hj => (HDO.out.2 j hj).1) HW.out.size)
      clear hh h1 h2 h3
      go_wp2_with fail
      exact ⟨⟨i + 1, by go_num, by omega, HX2.out, HD2.out, HW2.out⟩, by simp [intOf]; omega⟩
    · obtain rfl : i = 5 := by omega
      have HRm := hid (HM.out.rooms b O (alD 5) wr HDO.out.1 ((al_small 5).mono (by decide)))
      have HGt := hid fun W h => HM.out.get b O (alD 5) [101] W h ((al_small 5).mono (by decide)) (by decide)
      have HLn := hid fun W h => HM.out.length b O (alD 5) W h
      rw [al_end.1, al_end.2.1] at HRm
      rw [al_end.2.2.2] at HGt
      rw [al_end.2.2.1] at HLn
      simp only [Option.getD_some, Option.isSome_some] at HGt
      go_wp2_with fail
      refine HRm.out.mono ?_; rintro e w2 ⟨rfl, hh⟩
      have HD2 := hid (HM.out.below HDO.out.1 hh.out)
      have HW2 := hid (HW.out.trans (hh.out.mono HW.out.size))
      clear hh
      go_wp2_with fail
      refine (HGt.out _ HD2.out).mono ?_; rintro e w3 ⟨rfl, hh⟩
      have HD3 := hid (HM.out.below HD2.out hh.out)
      have HW3 := hid (HW2.out.trans (hh.out.mono HW2.out.size))
      clear hh
      go_wp2_with fail
      refine (HLn.out _ HD3.out).mono ?_; rintro e w4 ⟨rfl, hh⟩
      have HW4 := hid (HW3.out.trans (hh.out.mono HW3.out.size))
      clear hh
      go_wp2_with fail
      go_ret
      exact ⟨rfl, HW4.out⟩

end Go.Proofs.YtphegggekcjenaaDoor
