/- The walk of the law ValueSame. -/
import Derived.Test.YtmjmdfenkhmfbaaDoorLawSame
import Derived.Deep.RegionHeld3
namespace Go.Proofs.YtmjmdfenkhmfbaaDoor
open Go.RowKit

theorem cat_q (t : Nm) : (⟨t.toArray⟩ ++ ⟨#[63]⟩ : ByteArray) = ⟨(fI t).toArray⟩ := app_ba t [63]
set_option maxHeartbeats 8000000 in
set_option maxRecDepth 100000 in
theorem same_law {V : World → Prop} (M : MethV V) (N : MethC V) (m : Vl) (pp : Option Addr) (pc' : Nat) (ip : Option Addr) (ic : Nat) (b : Vl) (ppb : Option Addr) (pcb : Nat) (ipb : Option Addr) (icb : Nat) (w : World) (hV : V w) (hC : Came m) (hRm : m.pairs.length * 32 ≤ 140737488351232 ∧ m.items.length * 16 ≤ 140737488351232) (hI : VI w m pp pc' ip ic) (hCb : Came b) (hIb : VI w b ppb pcb ipb icb) :
    Calls Tryd.prog 8 #[vv m pp pc' ip ic, vv b ppb pcb ipb icb] w fun e w' => e = .returned (.bool true) ∧ Below w.heap.size w w' := by
  have HM := hid M
  have HNc := hid N
  have HV := hid hV
  have HVI := hid hI
  have HVJ := hid hIb
  have HA := hid (al_two w (vob m pp pc' ip ic) (vob b ppb pcb ipb icb))
  obtain ⟨a0, a1, a2, a3, a4, a5⟩ := val_facts HA.out.2.1
  have HCp := hid (fun W h k => HNc.out.copy m pp pc' ip ic W h hC hRm k)
  have HS1 := hid (fun W h k1 k2 => HM.out.same m b pp pc' ip ic ppb pcb ipb icb W h hC hCb k1 k2)
  have HS2 := hid (fun W k1 k2 => rsame_any m b pp pc' ip ic ppb pcb ipb icb W k1 k2 hC.pairs hC.items)
  have HS3 := hid (fun pp2 pc2 ip2 ic2 W h k1 k2 => HM.out.same m m pp pc' ip ic pp2 pc2 ip2 ic2 W h hC hC k1 k2)
  rw [decide_eq_true (rfl : m = m)] at HS3
  have HS4 := hid (fun pp2 pc2 ip2 ic2 W k1 k2 => rsame_any m (cp m m.pairs.length m.items.length) pp pc' ip ic pp2 pc2 ip2 ic2 W k1 k2 hC.pairs hC.items)
  have HNe := hid (cp_ne (m := m))
  have HVV : Hid (∀ pp2 pc2 ip2 ic2, vv (cp m m.pairs.length m.items.length) pp2 pc2 ip2 ic2 = vv m pp2 pc2 ip2 ic2) := fun pp2 pc2 ip2 ic2 => by
    unfold vv vcs cp
    dsimp only
    rw [bump_len _ _ _ (Nat.le_refl _), bump_len _ _ _ (Nat.le_refl _)]
  have hpl := hC.pairs
  have hil := hC.items
  have hpz : (m.pairs.length : Int) ≤ 140737488351232 := by omega
  have hiz : (m.items.length : Int) ≤ 140737488351232 := by omega
  have HCm := hid hC
  generalize decide (m = b) = SM at *
  have hSM : (SM == SM) = true := by simp
  clear M N hV hI hIb hC hCb hRm hpl hil
  go_enter Tryd.func8, Tryd.ntmps8
  go_wp2_with fail
  refine (HCp.out _ (HM.out.env HV.out HA.out.1) (HVI.out.below HA.out.1)).mono ?_; rintro e w1 ⟨pp2, pc2, ip2, ic2, rfl, hh⟩
  have hb1 := hh.out.2.2
  rw [HA.out.2.2.2] at hb1
  have hsz1 : w.heap.size + 2 ≤ w1.heap.size := by have := hb1.size; rw [HA.out.2.2.2] at this; exact this
  have HX1 := hid ((heap_alloc_old w1 (vob m pp2 pc2 ip2 ic2) (show w.heap.size < w1.heap.size by omega)).trans ((hb1.block w.heap.size (by omega)).trans HA.out.2.1))
  have HY1 := hid ((heap_alloc_old w1 (vob m pp2 pc2 ip2 ic2) (show w.heap.size + 1 < w1.heap.size by omega)).trans ((hb1.block (w.heap.size + 1) (by omega)).trans HA.out.2.2.1))
  have HZ1 := hid (val_new w1 m pp2 pc2 ip2 ic2)
  have HW0 := hid (HA.out.1.trans (hb1.mono (by omega)))
  have HI1 := hid (hh.out.1.below (below_alloc w1 (vob m pp2 pc2 ip2 ic2)))
  have hwt := hh.out.2.1
  rw [HA.out.2.2.2] at hwt
  have HT1 := hid (hwt.turn (below_alloc w1 (vob m pp2 pc2 ip2 ic2)))
  have HW1 := hid (HW0.out.trans ((below_alloc w1 (vob m pp2 pc2 ip2 ic2)).mono HW0.out.size)).drew
  clear hh hb1 hwt a0 a1 a2 a3 a4 a5
  obtain ⟨a0, a1, a2, a3, a4, a5⟩ := val_facts HX1.out
  obtain ⟨b0, b1, b2, b3, b4, b5⟩ := val_facts HY1.out
  obtain ⟨c0, c1, c2, c3, c4, c5⟩ := val_facts HZ1.out
  have HI1d : Hid (VI (w1.alloc (vob m pp2 pc2 ip2 ic2)).drew m pp2 pc2 ip2 ic2) := HI1.out.below ((Below.refl _ _).drew)
  have HT1d : Hid (Wt (w.heap.size + 2) (w1.alloc (vob m pp2 pc2 ip2 ic2)).drew pp2 ip2 m.pairs.length m.items.length) := HT1.out.turn ((Below.refl _ _).drew)
  have hq0 : w.heap.size < w1.heap.size + 1 := by omega
  have hq1 : w.heap.size + 1 < w1.heap.size + 1 := by omega
  go_wp2_with fail
  go_region_held3 (fun w' => w'.cell? ⟨w.heap.size, 0, none⟩ = some (.int .i64 m.kind) ∧ w'.cell? ⟨w.heap.size, 1, none⟩ = some (txt m.text) ∧ w'.cell? ⟨w.heap.size, 2, none⟩ = some (.slice pp m.pairs.length pc') ∧ w'.cell? ⟨w.heap.size, 3, none⟩ = some (.slice ip m.items.length ic) ∧ w'.cell? ⟨w.heap.size, 4, none⟩ = some (.int .i64 m.px) ∧ w'.cell? ⟨w.heap.size, 5, none⟩ = some (.int .i64 m.py) ∧ w'.cell? ⟨w.heap.size + 1, 0, none⟩ = some (.int .i64 b.kind) ∧ w'.cell? ⟨w.heap.size + 1, 1, none⟩ = some (txt b.text) ∧ w'.cell? ⟨w.heap.size + 1, 2, none⟩ = some (.slice ppb b.pairs.length pcb) ∧ w'.cell? ⟨w.heap.size + 1, 3, none⟩ = some (.slice ipb b.items.length icb) ∧ w'.cell? ⟨w.heap.size + 1, 4, none⟩ = some (.int .i64 b.px) ∧ w'.cell? ⟨w.heap.size + 1, 5, none⟩ = some (.int .i64 b.py) ∧ w'.cell? ⟨w1.heap.size, 0, none⟩ = some (.int .i64 m.kind) ∧ w'.cell? ⟨w1.heap.size, 1, none⟩ = some (txt m.text) ∧ w'.cell? ⟨w1.heap.size, 2, none⟩ = some (.slice pp2 m.pairs.length pc2) ∧ w'.cell? ⟨w1.heap.size, 3, none⟩ = some (.slice ip2 m.items.length ic2) ∧ w'.cell? ⟨w1.heap.size, 4, none⟩ = some (.int .i64 m.px) ∧ w'.cell? ⟨w1.heap.size, 5, none⟩ = some (.int .i64 m.py))
    (first | exact ⟨a0, a1, a2, a3, a4, a5, b0, b1, b2, b3, b4, b5, c0, c1, c2, c3, c4, c5⟩ | exact ⟨x20, x21, x22, x23, x24, x25, y20, y21, y22, y23, y24, y25, z20, z21, z22, z23, z24, z25⟩ | exact ⟨x30, x31, x32, x33, x34, x35, y30, y31, y32, y33, y34, y35, z30, z31, z32, z33, z34, z35⟩ | exact ⟨x40, x41, x42, x43, x44, x45, y40, y41, y42, y43, y44, y45, z40, z41, z42, z43, z44, z45⟩ | go_keep)
    (first
      | (have _q := HX3.out; clear _q; go_at_call 23; refine (HS3.out pp2 pc2 ip2 ic2 _ (HM.out.env HV.out HW3.out) (HVI.out.below HW3.out) HI3.out).mono ?_; rintro e w4 ⟨rfl, hh⟩; have HX4 := hid ((hh.out.block w.heap.size (Array.getElem?_eq_some_iff.1 HX3.out).1).trans HX3.out); have HY4 := hid ((hh.out.block (w.heap.size + 1) (Array.getElem?_eq_some_iff.1 HY3.out).1).trans HY3.out); have HZ4 := hid ((hh.out.block w1.heap.size (Array.getElem?_eq_some_iff.1 HZ3.out).1).trans HZ3.out); have HI4 := hid (HI3.out.below hh.out); have HT4 := hid (HT3.out.turn hh.out); have HW4 := hid (HW3.out.trans (hh.out.mono HW3.out.size)); clear hh; obtain ⟨x40, x41, x42, x43, x44, x45⟩ := val_facts HX4.out; obtain ⟨y40, y41, y42, y43, y44, y45⟩ := val_facts HY4.out; obtain ⟨z40, z41, z42, z43, z44, z45⟩ := val_facts HZ4.out)
      | (go_at_call 23; refine (HS1.out _ (HM.out.env HV.out HW1.out) (HVI.out.below HW1.out) (HVJ.out.below HW1.out)).mono ?_; rintro e w2 ⟨rfl, hh⟩; have HX2 := hid ((hh.out.block w.heap.size (Array.getElem?_eq_some_iff.1 HX1.out).1).trans HX1.out); have HY2 := hid ((hh.out.block (w.heap.size + 1) (Array.getElem?_eq_some_iff.1 HY1.out).1).trans HY1.out); have HZ2 := hid ((hh.out.block w1.heap.size (Array.getElem?_eq_some_iff.1 HZ1.out).1).trans HZ1.out); have HI2 := hid (HI1d.out.below hh.out); have HT2 := hid (HT1d.out.turn hh.out); have HW2 := hid (HW1.out.trans (hh.out.mono HW1.out.size)); clear hh; obtain ⟨x20, x21, x22, x23, x24, x25⟩ := val_facts HX2.out; obtain ⟨y20, y21, y22, y23, y24, y25⟩ := val_facts HY2.out; obtain ⟨z20, z21, z22, z23, z24, z25⟩ := val_facts HZ2.out)
      | (go_at_call 21; refine (HS2.out _ (HVI.out.below HW2.out) (HVJ.out.below HW2.out)).mono ?_; rintro e w3 ⟨rfl, hh⟩; have HX3 := hid ((hh.out.block w.heap.size (Array.getElem?_eq_some_iff.1 HX2.out).1).trans HX2.out); have HY3 := hid ((hh.out.block (w.heap.size + 1) (Array.getElem?_eq_some_iff.1 HY2.out).1).trans HY2.out); have HZ3 := hid ((hh.out.block w1.heap.size (Array.getElem?_eq_some_iff.1 HZ2.out).1).trans HZ2.out); have HI3 := hid (HI2.out.below hh.out); have HT3 := hid (HT2.out.turn hh.out); have HW3 := hid (HW2.out.trans (hh.out.mono HW2.out.size)); clear hh; obtain ⟨x30, x31, x32, x33, x34, x35⟩ := val_facts HX3.out; obtain ⟨y30, y31, y32, y33, y34, y35⟩ := val_facts HY3.out; obtain ⟨z30, z31, z32, z33, z34, z35⟩ := val_facts HZ3.out))
  all_goals
    have HC0 : Hid (CS w w1.heap.size m pp pc' ip ic pp2 pc2 ip2 ic2 w4 0 0) := ⟨HX4.out, HZ4.out, by unfold cp; rw [bump_zero, bump_zero]; exact HI4.out, HT4.out, HW4.out⟩
    clear a0 a1 a2 a3 a4 a5 b0 b1 b2 b3 b4 b5 c0 c1 c2 c3 c4 c5 x20 x21 x22 x23 x24 x25 y20 y21 y22 y23 y24 y25 z20 z21 z22 z23 z24 z25 x30 x31 x32 x33 x34 x35 y30 y31 y32 y33 y34 y35 z30 z31 z32 z33 z34 z35 x40 x41 x42 x43 x44 x45 y40 y41 y42 y43 y44 y45
    go_wp2_with fail
    go_loopw [7, 26] (fun _ v26 W => ∃ j : Nat, v26 = .int .i64 (j : Int) ∧ j ≤ m.items.length ∧ Hid (CS w w1.heap.size m pp pc' ip ic pp2 pc2 ip2 ic2 W 0 j)) (fun _ v26 _ => m.items.length - (intOf v26).toNat)
    case atStart => exact ⟨0, rfl, Nat.zero_le _, HC0.out⟩
    case round =>
      obtain ⟨j, rfl, hj, HCj⟩ := hrel
      obtain ⟨c0, c1, c2, c3, c4, c5⟩ := val_facts HCj.out.c
      by_cases hlt : j < m.items.length
      · have hlz : (j : Int) < (m.items.length : Int) := by omega
        obtain ⟨g, o, hg, hcell, hfr, hnext⟩ := HCj.out.item (Nat.zero_le _) hlt
        have hl := HCm.out.texts _ (List.getElem_mem hlt)
        have hcat := cat_q m.items[j]
        have HNx := hid hnext
        subst hg
        generalize m.items[j] = t at *
        have n1 : ¬ 9223372036854775807 < t.length + 1 := by omega
        generalize fI t = t2 at *
        clear hnext
        go_wp2_with fail
        exact ⟨⟨j + 1, by go_num, by omega, HNx.out⟩, by simp [intOf]; omega⟩
      · have hjm : j = m.items.length := by omega
        rw [hjm] at HCj
        have hge : (m.items.length : Int) ≤ (j : Int) := by omega
        clear hjm
        go_wp2_with fail
        go_loopw [8, 40] (fun _ v40 W => ∃ k : Nat, v40 = .int .i64 (k : Int) ∧ k ≤ m.pairs.length ∧ Hid (CS w w1.heap.size m pp pc' ip ic pp2 pc2 ip2 ic2 W k m.items.length)) (fun _ v40 _ => m.pairs.length - (intOf v40).toNat)
        case atStart => exact ⟨0, rfl, Nat.zero_le _, HCj.out⟩
        case round =>
          obtain ⟨k, rfl, hk, HCk⟩ := hrel
          clear c0 c1 c2 c3 c4 c5
          obtain ⟨c0, c1, c2, c3, c4, c5⟩ := val_facts HCk.out.c
          by_cases hklt : k < m.pairs.length
          · have hkz : (k : Int) < (m.pairs.length : Int) := by omega
            obtain ⟨g, o, hg, hcell, hfr, hnext⟩ := HCk.out.name hklt (Nat.le_refl _)
            have hl := HCm.out.names _ (List.mem_map_of_mem (f := (·.1)) (List.getElem_mem hklt))
            have hcat := cat_q m.pairs[k].1
            have HNx := hid hnext
            subst hg
            generalize m.pairs[k].1 = t at *
            have n1 : ¬ 9223372036854775807 < t.length + 1 := by omega
            generalize fI t = t2 at *
            clear hnext
            go_wp2_with fail
            exact ⟨⟨k + 1, by go_num, by omega, HNx.out⟩, by simp [intOf]; omega⟩
          · have hkm : k = m.pairs.length := by omega
            rw [hkm] at HCk
            have hgk : (m.pairs.length : Int) ≤ (k : Int) := by omega
            clear hkm
            go_wp2_with fail
            refine (alive_any HM.out _ (HM.out.env HV.out HCk.out.bel)).mono ?_; rintro e w5 ⟨rfl, hh⟩
            have HX5 := hid ((hh.out.block w.heap.size (Array.getElem?_eq_some_iff.1 HCk.out.a).1).trans HCk.out.a)
            have HZ5 := hid ((hh.out.block w1.heap.size (Array.getElem?_eq_some_iff.1 HCk.out.c).1).trans HCk.out.c)
            have HI5 := hid (HCk.out.vi.below hh.out)
            have HW5 := hid (HCk.out.bel.trans (hh.out.mono HCk.out.bel.size))
            clear hh c0 c1 c2 c3 c4 c5
            obtain ⟨a0, a1, a2, a3, a4, a5⟩ := val_facts HX5.out
            obtain ⟨c0, c1, c2, c3, c4, c5⟩ := val_facts HZ5.out
            by_cases h0 : 0 < m.items.length + m.pairs.length
            · have hs0 : ((m.items.length : Int) + (m.pairs.length : Int) == 0) = false := beq_eq_false_iff_ne.2 (by omega)
              have HS5 := hid (HS4.out pp2 pc2 ip2 ic2 w5 (HVI.out.below HW5.out) HI5.out)
              rw [HVV.out, decide_eq_false (HNe.out h0)] at HS5
              clear h0
              go_wp2_with fail
              refine HS5.out.mono ?_; rintro e w6 ⟨rfl, hh⟩
              have HW6 := hid (HW5.out.trans (hh.out.mono HW5.out.size))
              clear hh
              go_wp2_with fail
              go_ret
              exact ⟨rfl, HW6.out⟩
            · have hs0 : ((m.items.length : Int) + (m.pairs.length : Int) == 0) = true := beq_iff_eq.2 (by omega)
              clear h0
              go_wp2_with fail
              go_ret
              exact ⟨rfl, HW5.out⟩

end Go.Proofs.YtmjmdfenkhmfbaaDoor
