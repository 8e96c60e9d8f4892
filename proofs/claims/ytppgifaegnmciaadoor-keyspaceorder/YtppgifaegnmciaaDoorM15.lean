/- Prg1. -/
import Derived.Test.YtppgifaegnmciaaDoorM11
import Derived.Test.YtppgifaegnmciaaDoorM09
import Derived.Test.YtppgifaegnmciaaDoorM10
namespace Go.Proofs.YtppgifaegnmciaaDoor
open Go.RowKit

theorem Tab.env {w w' : World} (h : Tab w) (hb : Below w.heap.size w w') : Tab w' := h.below hb (block_lt_of_cell (h 0 (by decide)))
set_option maxHeartbeats 2000000 in
set_option maxRecDepth 100000 in
/-- Dump -/
theorem pdump_any (m : Vl) (pp : Option Addr) (pc' : Nat) (ip : Option Addr) (ic : Nat) (w : World) (hTb : Tab w) (hC : Came m) (hV : VI w m pp pc' ip ic) :
    Calls Tryd.prog 45 #[vv m pp pc' ip ic] w fun e w' => e = .returned (.tuple #[txt (dumpS m), .bool (rightB m)]) ∧ Hid (Below w.heap.size w w') := by
  have HB := hid (below_alloc w (vob m pp pc' ip ic))
  have HX := hid (val_new w m pp pc' ip ic)
  have HVI := hid hV
  have HTb := hid hTb
  have HR : Hid (∀ W, VI W m pp pc' ip ic → Calls Tryd.prog 16 #[vv m pp pc' ip ic] W fun e w' => e = .returned (.bool (rightB m)) ∧ Hid (Below W.heap.size W w')) := fun W h => pright_any m pp pc' ip ic W hC h
  obtain ⟨c0, c1, c2, c3, c4, c5⟩ := val_facts HX.out
  by_cases h : rightB m = true
  · have HBo : Hid (∀ W, VI W m pp pc' ip ic → Calls Tryd.prog 56 #[.slice none 0 0, vv m pp pc' ip ic] W fun e w' => ∃ q d, e = .returned (.slice q (bodyV m).length d) ∧ Hid (w'.ownsRow W.heap.size 5 1 (.slice q (bodyV m).length d) (bodyV m).length (Lib.byteCells (bodyV m)) ∧ Below W.heap.size W w')) := fun W h' => apv_any m (rightB_iff.1 h) pp pc' ip ic W h'
    rw [show dumpS m = dumpV m from if_pos h]
    rw [h] at HR ⊢
    have hmax := body_max (rightB_iff.1 h)
    have HSm := hid (fun q d W ht hb => psum_any q d (bodyV m) W ht hb)
    have HN : Hid (∀ B w1 W q d, Txt B w1 W (.slice q (bodyV m).length d) (bodyV m) → PutsN 57 #[.slice q (bodyV m).length d, .int .i64 2, .int .i64 (sumN (bodyV m) : Int)] B w1 W (dumpV m)) := fun B w1 W q d h => apnum2_n (sumN (bodyV m)) B w1 W q (bodyV m).length d (bodyV m) h (by omega)
    have hslt := sumN_lt (bodyV m)
    generalize dumpV m = D at *
    generalize sumN (bodyV m) = sm at *
    have hsz : (sm : Int) < 65536 := by omega
    have hwr : IntKind.i64.wrap (sm : Int) = (sm : Int) := by rw [IntKind.wrap_i64]; omega
    generalize bodyV m = Bd at *
    have hbz : (Bd.length : Int) ≤ 1000000 := by omega
    have HMx := hid hmax
    obtain ⟨n, hn⟩ : ∃ n, n = Bd.length := ⟨_, rfl⟩
    have HNl := hid hn
    rw [← hn] at HBo HSm HN hbz
    clear h hV hC hTb hmax hn
    go_enter Tryd.func45, Tryd.ntmps45
    go_wp2_with fail
    refine (HR.out _ (HVI.out.below HB.out)).mono ?_; rintro e w1 ⟨rfl, hh⟩
    have HX1 := hid ((hh.out.block w.heap.size (by simp)).trans HX.out)
    have HW1 := hid (HB.out.trans (hh.out.mono HB.out.size))
    clear hh c0 c1 c2 c3 c4 c5
    obtain ⟨c0, c1, c2, c3, c4, c5⟩ := val_facts HX1.out
    go_wp2_with fail
    refine (HBo.out _ (HVI.out.below HW1.out)).mono ?_; rintro e w2 ⟨q, d, rfl, hh⟩
    have ho2 := hh.out.1
    rw [HNl.out] at ho2
    have HO2 := hid ho2
    have HS2 := hid hh.out.2.size
    have HW2 := hid (HW1.out.trans (hh.out.2.mono HW1.out.size))
    clear hh c0 c1 c2 c3 c4 c5 ho2
    go_wp2_with fail
    refine (HSm.out q d _ (HTb.out.env HW2.out) (own_byts HO2.out (by have := HMx.out; omega))).mono ?_; rintro e w3 ⟨rfl, hw⟩
    rw [hw]; clear hw w3
    go_wp2_with fail
    refine (HN.out w1.heap.size w2 _ q d (by rw [HNl.out]; exact ⟨HO2.out, Below.refl _ _, HS2.out⟩)).mono ?_; rintro e w4 ⟨q4, N4, d4, rfl, hh⟩
    have hl4 := hh.out.1.num
    subst hl4
    have cv := owns_string hh.out.1.own
    have HW4 := hid (HW2.out.trans (hh.out.1.bel.mono HW1.out.size))
    clear hh
    go_wp2_with fail
    go_ret2
    exact ⟨rfl, HW4.out⟩
  · have h' : rightB m = false := by simpa using h
    rw [show dumpS m = [] from if_neg h]
    rw [h'] at HR ⊢
    clear h h' hV hC hTb
    go_enter Tryd.func45, Tryd.ntmps45
    go_wp2_with fail
    refine (HR.out _ (HVI.out.below HB.out)).mono ?_; rintro e w1 ⟨rfl, hh⟩
    have HW1 := hid (HB.out.trans (hh.out.mono HB.out.size))
    clear hh
    go_wp2_with fail
    go_ret2
    exact ⟨rfl, HW1.out⟩

end Go.Proofs.YtppgifaegnmciaaDoor
