/- The law of what is given and told. -/
import Derived.Test.YtpbokncojemihaaLawRight
namespace Go.Proofs.Ytpbokncojemihaa
open Go.RowKit

theorem Lw.set {n : Nat} {W : World} {q : Option Addr} {l : Row} (h : Lw n W q l) (x : Addr) (u v : Value) (hx : W.cell? x = some u) : Lw n (W.setCell x v) q l := fun hne => by
  obtain ⟨g, o, h1, h2, h3⟩ := h hne
  refine ⟨g, o, h1, h2, fun i hi => ⟨?_, by rw [World.frozen?_setCell]; exact (h3 i hi).2⟩⟩
  by_cases e : (⟨g, o + i, none⟩ : Addr) = x
  · subst e; exact ⟨v, World.cell?_setCell_same _ _ _ hx⟩
  · obtain ⟨v', hv'⟩ := (h3 i hi).1
    exact ⟨v', by rw [World.cell?_setCell_other _ _ _ _ (fun h => e h.symm)]; exact hv'⟩
theorem Lw.below {n : Nat} {W W' : World} {q : Option Addr} {l : Row} (h : Lw n W q l) (k : Below W.heap.size W W') : Lw n W' q l := fun hne => by
  obtain ⟨g, o, h1, h2, h3⟩ := h hne
  refine ⟨g, o, h1, h2, fun i hi => ?_⟩
  obtain ⟨⟨v, hv⟩, hf⟩ := h3 i hi
  have hg : g < W.heap.size := block_lt_of_cell hv
  exact ⟨⟨v, by rw [k.cell (p := ⟨g, o + i, none⟩) hg]; exact hv⟩, by rw [k.frozen (p := ⟨g, o + i, none⟩) hg]; exact hf⟩
set_option maxHeartbeats 4000000 in
set_option maxRecDepth 100000 in
theorem keep_any (M : Meth) (p : Option Addr) (l : Row) (c : Nat) (s t : Nm) (w : World) (h : Rd w p c l) (hn : l.length ≤ 9223372036854775807) :
    Calls Try.prog 7 #[.slice p l.length c, txt s, txt t] w fun e w' => e = .returned (.bool true) ∧ Below w.heap.size w w' := by
  have HM := hid M
  have H := hid h
  clear M h
  by_cases hf : l.length ≤ 1000
  · have HF := hid (few_yes p l.length c none 0 0 w hf (by decide))
    have hml := len_mk l
    have hil := len_ins s (mk l)
    have hdl := len_del t (mk l)
    have hra := Ris.mk l
    have HMk := hid (rmake_any p c l w H.out (by omega))
    generalize mk l = a at *
    have HWi := hid fun q d W h => HM.out.with_ q d a s W h (by omega) hra
    have HWo := hid fun q d W h => HM.out.without q d a t W h (by omega) hra
    have HS1 := hid fun q d q' d' W h h' => same_yes q d q' d' a W h h' (by omega)
    generalize ins s a = x at *
    generalize del t a = y at *
    go_enter Try.func7, Try.ntmps7
    go_wp2_with fail
    refine HF.out.mono ?_; rintro e w0 ⟨rfl, rfl⟩
    go_wp2_with fail
    refine HMk.out.mono ?_; rintro e w1 ⟨q1, d1, rfl, hh⟩
    have HA1 := hid hh.out.1.rd
    have HW1 := hid hh.out.2
    clear hh
    have HBa := hid (below_alloc w1 (.cells #[] 9))
    obtain ⟨v2, w2, hrun, ho2, hb2⟩ := Own.app0 (B := w1.heap.size) (W := w1.alloc (.cells #[] 9)) (v := .slice (some ⟨w1.heap.size, 0, none⟩) 0 0) (l := []) (World.ownsRow_lit w1 #[] 0 (Nat.le_refl _) (by decide) rfl) (by simp) q1 d1 a (HA1.out.strs.below HBa.out) HA1.out.nil HA1.out.cap (by simp; omega)
    rw [List.nil_append] at ho2
    obtain ⟨q2, d2, rfl, -⟩ := ho2.shape
    have HR := hid hrun
    have HB2 := hid ho2.rd
    have hb12 := HBa.out.trans hb2
    have HA2 := hid (HA1.out.below hb12)
    have HW2 := hid (HW1.out.trans (hb12.mono HW1.out.size))
    clear hrun ho2 hb2 hb12
    go_wp2_with (refine wpList_append_runs rfl _ _ 22 22 rfl _ _ _ _ rfl rfl HR.out (Hid.out ?_))
    refine hid ?_
    go_wp2_with fail
    refine (HWi.out _ _ _ HA2.out).mono ?_; rintro e w3 ⟨q3, d3, rfl, hh⟩
    have HL3 := hid hh.out.2.1
    have HW3 := hid hh.out.2.2
    have HA3 := hid (HA2.out.below hh.out.2.2)
    clear hh
    go_wp2_with fail
    refine (HWo.out _ _ _ HA3.out).mono ?_; rintro e w4 ⟨q4, d4, rfl, hh⟩
    have HL4 : Hid (Lw w2.heap.size w4 q4 y) := fun hne => by
      obtain ⟨g, o, h1, h2, h3⟩ := hh.out.2.1 hne
      exact ⟨g, o, h1, Nat.le_trans HW3.out.size h2, h3⟩
    have HL34 := hid (HL3.out.below hh.out.2.2)
    have HW4 := hid (HW3.out.trans (hh.out.2.2.mono HW3.out.size))
    clear hh HL3 HW3 HA3
    have hxz : (x.length : Int) ≤ 1001 := by omega
    have hyz : (y.length : Int) ≤ 1001 := by omega
    go_wp2_with fail
    go_loopw [11, 30] (fun _ v30 W => ∃ i : Nat, v30 = .int .i64 i ∧ i ≤ x.length ∧ Hid (Lw w2.heap.size W q3 x) ∧ Hid (Lw w2.heap.size W q4 y) ∧ Hid (Below w2.heap.size w2 W)) (fun _ v30 _ => x.length - (intOf v30).toNat)
    case atStart => exact ⟨0, rfl, Nat.zero_le _, HL34.out, HL4.out, HW4.out⟩
    case round =>
      obtain ⟨i, rfl, hi, HX, HY, HW⟩ := hrel
      by_cases hlt : i < x.length
      · have hiz : (i : Int) < (x.length : Int) := by omega
        obtain ⟨g, o, rfl, hg, hc⟩ := HX.out (fun e => by rw [e] at hlt; simp at hlt)
        obtain ⟨⟨u, hu⟩, hfr⟩ := hc i hlt
        have HX2 := hid (HX.out.set ⟨g, o + i, none⟩ u (.string ⟨#[63]⟩) hu)
        have HY2 := hid (HY.out.set ⟨g, o + i, none⟩ u (.string ⟨#[63]⟩) hu)
        have HW2' := hid (HW.out.setCell (p := ⟨g, o + i, none⟩) hg (.string ⟨#[63]⟩))
        clear hc
        go_wp2_with fail
        exact ⟨⟨i + 1, by go_num, by omega, HX2.out, HY2.out, HW2'.out⟩, by simp [intOf]; omega⟩
      · go_wp2_with fail
        go_loopw [12, 39] (fun _ v39 W => ∃ j : Nat, v39 = .int .i64 j ∧ j ≤ y.length ∧ Hid (Lw w2.heap.size W q4 y) ∧ Hid (Below w2.heap.size w2 W)) (fun _ v39 _ => y.length - (intOf v39).toNat)
        case atStart => exact ⟨0, rfl, Nat.zero_le _, HY.out, HW.out⟩
        case round =>
          obtain ⟨j, rfl, hj, HYj, HWj⟩ := hrel
          by_cases hjl : j < y.length
          · have hjz : (j : Int) < (y.length : Int) := by omega
            obtain ⟨g, o, rfl, hg, hc⟩ := HYj.out (fun e => by rw [e] at hjl; simp at hjl)
            obtain ⟨⟨u, hu⟩, hfr⟩ := hc j hjl
            have HY2 := hid (HYj.out.set ⟨g, o + j, none⟩ u (.string ⟨#[33]⟩) hu)
            have HW2' := hid (HWj.out.setCell (p := ⟨g, o + j, none⟩) hg (.string ⟨#[33]⟩))
            clear hc
            go_wp2_with fail
            exact ⟨⟨j + 1, by go_num, by omega, HY2.out, HW2'.out⟩, by simp [intOf]; omega⟩
          · have HAe := hid (HA2.out.below HWj.out)
            have HBe := hid (HB2.out.below HWj.out)
            have HWe := hid (HW2.out.trans (HWj.out.mono HW2.out.size))
            go_wp2_with fail
            refine (alive_any HM.out.toMethB _).mono ?_; rintro e w5 ⟨rfl, hh⟩
            have HA5 := hid (HAe.out.below hh.out)
            have HB5 := hid (HBe.out.below hh.out)
            have HW5 := hid (HWe.out.trans (hh.out.mono HWe.out.size))
            clear hh
            go_wp2_with fail
            refine (HS1.out _ _ _ _ _ HA5.out HB5.out).mono ?_; rintro e w6 ⟨rfl, hh⟩
            have HW6 := hid (HW5.out.trans (hh.out.mono HW5.out.size))
            clear hh
            go_wp2_with fail
            go_ret
            exact ⟨rfl, HW6.out⟩
  · have HF := hid (few_no p l.length c none 0 0 w (fun h => hf h.1) hn (by decide))
    go_enter Try.func7, Try.ntmps7
    go_wp2_with fail
    refine HF.out.mono ?_; rintro e w1 ⟨rfl, rfl⟩
    go_wp2_with fail
    refine (alive_any HM.out.toMethB _).mono ?_; rintro e w3 ⟨rfl, hh⟩
    have HW3 := hid hh.out
    clear hh
    go_wp2_with fail
    go_ret
    exact ⟨rfl, HW3.out⟩

end Go.Proofs.Ytpbokncojemihaa
