/- Proved: whatever the net and the picks, whatever is delivered, doubled or lost of what nodes tell one another, nobody is seen as the owner of a slot but who claimed it, and once each has taken what each other one tells all see the same owners: the law BusMeets returns true and leaves what came in as it was, whatever the input; the listed variables are tied to the program's text. -/
import Derived.Test.YtbfllifgmlkndaaGreatDoorM50
import Derived.Deep.DeepCutAuto
import Derived.Test.YtbfllifgmlkndaaGreatDoorCards
import Derived.Test.YtbfllifgmlkndaaGreatDoorTie
import Derived.Test.YtbfllifgmlkndaaGreatDoorM41
import Derived.ProofKit
import Derived.OpenShut
import Derived.ShutString
import Derived.ChangeMaps5
import Derived.ChangeOld
import Derived.RowKit
import Derived.Deep.DeepHandedRow
import Derived.SizedLaws
namespace Go.Proofs.YtbfllifgmlkndaaGreatDoor
open Go.RowKit Go.Shelf
open Slot

theorem tmod_nat (q n : Nat) : (q : Int).tmod (n : Int) = ((q % n : Nat) : Int) := rfl
theorem tmod_max (z : Int) (n : Nat) : (max z 0).tmod (n : Int) = (((max z 0).toNat % n : Nat) : Int) := by
  obtain ⟨q, hq⟩ := Int.eq_ofNat_of_zero_le (show 0 ≤ max z 0 by omega)
  rw [hq, Int.toNat_natCast]
  rfl
set_option maxHeartbeats 40000000 in
set_option maxRecDepth 100000 in
theorem meets_any (a : Option Addr) (C : List Int) (n c : Nat) (ap : Option Addr) (P : List Int) (np cp : Nat) (w : World) (hE : Env w) (hn : C.length = n) (hC : IntsR w a C) (hm : n ≤ 9223372036854775807) (hnp : P.length = np) (hP : IntsR w ap P) (hmp : np ≤ 9223372036854775807) :
    Calls Tryz.prog 5 #[.agg #[.slice a n c], .slice ap np cp] w fun e w' => e = .returned (.bool true) ∧ Below w.heap.size w w' := by
  have HN1 : Hid ((w.alloc (.cells #[.slice a n c] 63)).heap[w.heap.size]? = some (.cells #[.slice a n c] 63 (0, 0))) := heap_alloc_new w _
  have HW1 := hid (below_alloc w (.cells #[.slice a n c] 63))
  have HAl := hid (fun W (h : Env W) => balive_any W h)
  have HE := hid hE
  have HC := hid hC
  have HP := hid hP
  have HNP := hid hnp
  have HNn := hid hn
  have HAg := hid (fun (b vb : Nat) (F : Nat → Prop) (v : Vw) (O : List (Int × Bs)) (all : Bool) (W : World) (hB : BB 7 W F b vb v O) (hb : Below w.heap.size w W) (h6 : n ≤ 6) (hs : ∀ s : Nat, s < 64 → ownZ (v.own s) = ownAt C (s : Int) n ∨ (all = false ∧ ownZ (v.own s) = -1)) => agree_any 7 b vb F v O a C n c all W hB hn (hC.below hb (Nat.le_refl _)) (by omega) hs)
  have HNo := hid (fun W (h : n = 0 ∨ 6 < n) => nodes_no a n c W h hm)
  have HYe := hid (fun W (hb : Below w.heap.size w W) (h1 : 1 ≤ n) (h6 : n ≤ 6) => nodes_any a C n c W (hE.below hb hE.room) hn (hC.below hb (Nat.le_refl _)) (fun x e => by
    obtain ⟨b, o, e2, hb2, -⟩ := hC (fun e3 => by rw [e3] at hn; simp at hn; omega)
    rw [e2] at e
    cases e
    exact Nat.lt_of_lt_of_le hb2 hb.size) h1 h6)
  obtain ⟨NC, hNC⟩ : ∃ C : Array Value, #[.slice a n c] = C := ⟨_, rfl⟩
  have iN : (Tryz.prog.info? 63).map (·.size) = some NC.size := by rw [← hNC]; show _ = some 1; kernel_rfl
  rw [hNC] at HN1 HW1 HAg HNo HYe ⊢
  clear hNC hE hn hC hnp hP
  go_enter Tryz.func5, Tryz.ntmps5
  go_upto_region 1 with fail
  generalize w.alloc (.cells NC 63) = w1 at *
  by_cases h16 : 1 ≤ n ∧ n ≤ 6
  · obtain ⟨h1, h6⟩ := h16
    have HYe1 := hid (HYe.out w1 HW1.out h1 h6)
    clear HYe HNo
    go_wp2_with (refine wpList_load_row rfl 63 _ rfl w.heap.size rfl 63 _ (0, 0) _ HN1.out Tryz.underlying63 rfl iN ?_)
    refine HYe1.out.mono ?_; rintro r w2 ⟨lb, cl, bs, vbs, Fs, vs, os, rfl, hlb, hpt, hnt⟩
    have HM2 : Hid (Ms w w2 NC C n lb bs vbs Fs vs os 0 (.slice none 0 0) []) := ⟨⟨hnt.bus, hnt.ty, fun i hi k hk => Nat.le_trans HW1.out.size (hnt.low i hi k hk), hnt.apart, hnt.inv, hnt.good, hnt.len, HW1.out.trans (hnt.bel.mono HW1.out.size)⟩, wy_nil _ _, (fun l hl => by cases hl), hpt, (hnt.bel.block _ (Array.getElem?_eq_some_iff.1 HN1.out).1).trans HN1.out⟩
    have he : ∀ w : World, (binOp .eql 64 (.slice (some ⟨lb, 0, none⟩) n cl) (.slice none 0 0)).run Tryz.prog w = .ok (.bool false) w := fun _ => rfl
    clear hlb hpt hnt HN1 HW1 HYe1
    by_cases h300 : 300 < np
    · have hz : (300 : Int) < (np : Int) := by omega
      have HE2 := hid (HE.out.below HM2.out.nt.bel HE.out.room)
      go_wp2_with fail
      refine (HAl.out w2 HE2.out).mono ?_; rintro r w3 ⟨rfl, hb⟩
      have HW3 := hid (HM2.out.nt.bel.trans (hb.mono HM2.out.nt.bel.size))
      clear hb
      go_wp2_with fail
      go_ret
      exact ⟨rfl, HW3.out⟩
    have hz : ¬ (300 : Int) < (np : Int) := by omega
    have hzp : (np : Int) ≤ 300 := by omega
    have hz1 : (1 : Int) ≤ (n : Int) := by omega
    have hz6 : (n : Int) ≤ 6 := by omega
    clear h300
    go_wp2_with fail
    clear hz
    go_loopw [6, 35] (fun wv i wr => ∃ k : Nat, k ≤ np ∧ i = .int .i64 (k : Int) ∧ ∃ aw nw cw, wv = .slice aw nw cw ∧ nw ≤ 2 * k ∧ nw ≤ cw ∧ Hid (∃ Fs vs os L, Ms w wr NC C n lb bs vbs Fs vs os 0 (.slice aw nw cw) L ∧ L.length = nw)) (fun _ i _ => np - (intOf i).toNat)
    case atStart => exact ⟨0, Nat.zero_le _, rfl, none, 0, 0, rfl, Nat.le_refl _, Nat.le_refl _, _, _, _, _, HM2.out, rfl⟩
    case round =>
      clear HM2
      obtain ⟨k, hk, rfl, aw, nw, cw, rfl, hnw, hcw, HX⟩ := hrel
      by_cases hlt : k < np
      · skip
        obtain ⟨Fs, vs, os, L, hM, hLn⟩ := HX.out
        have HM := hid hM
        have HLn := hid hLn
        clear HX hM hLn
        have hkz : (k : Int) < (np : Int) := by omega
        have hkL : k < P.length := by have := HNP.out; omega
        obtain ⟨pb, po, rfl, hpl, hp1⟩ := HP.out (fun e => by rw [e] at hkL; exact absurd hkL (Nat.not_lt_zero _))
        obtain ⟨z, hzk⟩ : ∃ z, P[k] = z := ⟨_, rfl⟩
        have cz : wr.cell? ⟨pb, po + k, none⟩ = some (.int .i64 z) := by
          rw [HM.out.nt.bel.cell (p := ⟨pb, po + k, none⟩) hpl]
          exact hp1 k _ (by rw [List.getElem?_map, List.getElem?_eq_getElem hkL, hzk]; rfl)
        clear hp1 hzk hkL
        go_upto_region 8 with fail
        clear cz
        obtain ⟨fr, hfr⟩ : ∃ fr : Nat, (max z 0).toNat % n = fr := ⟨_, rfl⟩
        obtain ⟨tg, htg⟩ : ∃ tg : Nat, k % n = tg := ⟨_, rfl⟩
        have hfn : fr < n := by rw [← hfr]; exact Nat.mod_lt _ (by omega)
        have htn : tg < n := by rw [← htg]; exact Nat.mod_lt _ (by omega)
        have HMd := hid HM.out.drew
        have HRm : Hid ((max z 0).tmod (n : Int) = (fr : Int)) := by show _ = _; rw [← hfr]; exact tmod_max z n
        have HRk : Hid ((k : Int).tmod (n : Int) = (tg : Int)) := by show _ = _; rw [← htg]; exact tmod_nat k n
        have hn0 : ¬ n = 0 := by omega
        have hfz : (fr : Int) < (n : Int) := by omega
        have htz : (tg : Int) < (n : Int) := by omega
        clear hfr htg
        refine wp_region_held_drew (S := fun _ => True) (by kernel_rfl) True.intro (fun hHeld => ?_)
        refine wpAnyH_take (i := 0) (oi := { dst := some 40, op := Op.move (Operand.tmp 8), type := 3, pos := "law.go:224", after := #[], guard := none }) (v := .int .i64 z) rfl (by kernel_rfl) (by kernel_rfl) (by kernel_rfl) (fun _ _ _ h => h) (Or.inl ⟨by rfl, fun wS hSw => ?_⟩) (by assumption) ?_
        · clear hHeld
          clear hSw
          go_simp
        try simp only [Act.put, List.setIfInBounds_toArray, List.set_cons_zero, List.set_cons_succ]
        refine wpAnyH_take (i := 1) (oi := { dst := some 41, op := Op.call { callee := Callee.builtin Builtin.max, args := #[Operand.tmp 40, Operand.const (Value.int IntKind.i64 0)], argTypes := #[3, 3] }, type := 3, pos := "law.go:224", after := #[{ on := 0, ground := Ground.data }], guard := none }) (v := .int .i64 (max z 0)) rfl (by kernel_rfl) (by kernel_rfl) (by kernel_rfl) (fun _ _ _ h => h) (Or.inl ⟨by rfl, fun wS hSw => ?_⟩) (by assumption) ?_
        · clear hHeld
          clear hSw
          go_simp
        try simp only [Act.put, List.setIfInBounds_toArray, List.set_cons_zero, List.set_cons_succ]
        refine wpAnyH_take (i := 2) (oi := { dst := some 42, op := Op.move (Operand.tmp 5), type := 64, pos := "law.go:224", after := #[], guard := none }) (v := .slice (some ⟨lb, 0, none⟩) n cl) rfl (by kernel_rfl) (by kernel_rfl) (by kernel_rfl) (fun _ _ _ h => h) (Or.inl ⟨by rfl, fun wS hSw => ?_⟩) (by assumption) ?_
        · clear hHeld
          clear hSw
          go_simp
        try simp only [Act.put, List.setIfInBounds_toArray, List.set_cons_zero, List.set_cons_succ]
        refine wpAnyH_take (i := 3) (oi := { dst := some 43, op := Op.call { callee := Callee.builtin Builtin.len, args := #[Operand.tmp 42], argTypes := #[64] }, type := 3, pos := "law.go:224", after := #[{ on := 2, ground := Ground.data }], guard := none }) (v := .int .i64 (n : Int)) rfl (by kernel_rfl) (by kernel_rfl) (by kernel_rfl) (fun _ _ _ h => h) (Or.inl ⟨by rfl, fun wS hSw => ?_⟩) (by assumption) ?_
        · clear hHeld
          clear hSw
          go_simp
        try simp only [Act.put, List.setIfInBounds_toArray, List.set_cons_zero, List.set_cons_succ]
        refine wpAnyH_take (i := 4) (oi := { dst := some 44, op := Op.binOp BinOp.rem 3 (Operand.tmp 41) (Operand.tmp 43) 3, type := 3, pos := "law.go:224", after := #[{ on := 1, ground := Ground.data }, { on := 3, ground := Ground.data }], guard := none }) (v := .int .i64 (fr : Int)) rfl (by kernel_rfl) (by kernel_rfl) (by kernel_rfl) (fun _ _ _ h => h) (Or.inl ⟨by rfl, fun wS hSw => ?_⟩) (by assumption) ?_
        · clear hHeld
          have hrm := HRm.out
          clear hSw
          go_simp
        try simp only [Act.put, List.setIfInBounds_toArray, List.set_cons_zero, List.set_cons_succ]
        refine wpAnyH_take (i := 5) (oi := { dst := some 45, op := Op.move (Operand.tmp 7), type := 3, pos := "law.go:224", after := #[{ on := 9, ground := Ground.gcOnly Departure.lateStores }], guard := none }) (v := .int .i64 (k : Int)) rfl (by kernel_rfl) (by kernel_rfl) (by kernel_rfl) (fun _ _ _ h => h) (Or.inl ⟨by rfl, fun wS hSw => ?_⟩) (by assumption) ?_
        · clear hHeld
          clear hSw
          go_simp
        try simp only [Act.put, List.setIfInBounds_toArray, List.set_cons_zero, List.set_cons_succ]
        refine wpAnyH_take (i := 6) (oi := { dst := some 46, op := Op.move (Operand.tmp 5), type := 64, pos := "law.go:224", after := #[], guard := none }) (v := .slice (some ⟨lb, 0, none⟩) n cl) rfl (by kernel_rfl) (by kernel_rfl) (by kernel_rfl) (fun _ _ _ h => h) (Or.inl ⟨by rfl, fun wS hSw => ?_⟩) (by assumption) ?_
        · clear hHeld
          clear hSw
          go_simp
        try simp only [Act.put, List.setIfInBounds_toArray, List.set_cons_zero, List.set_cons_succ]
        refine wpAnyH_take (i := 7) (oi := { dst := some 47, op := Op.call { callee := Callee.builtin Builtin.len, args := #[Operand.tmp 46], argTypes := #[64] }, type := 3, pos := "law.go:224", after := #[{ on := 6, ground := Ground.data }], guard := none }) (v := .int .i64 (n : Int)) rfl (by kernel_rfl) (by kernel_rfl) (by kernel_rfl) (fun _ _ _ h => h) (Or.inl ⟨by rfl, fun wS hSw => ?_⟩) (by assumption) ?_
        · clear hHeld
          clear hSw
          go_simp
        try simp only [Act.put, List.setIfInBounds_toArray, List.set_cons_zero, List.set_cons_succ]
        refine wpAnyH_take (i := 8) (oi := { dst := some 48, op := Op.binOp BinOp.rem 3 (Operand.tmp 45) (Operand.tmp 47) 3, type := 3, pos := "law.go:224", after := #[{ on := 5, ground := Ground.data }, { on := 7, ground := Ground.data }, { on := 9, ground := Ground.gcOnly Departure.lateStores }], guard := none }) (v := .int .i64 (tg : Int)) rfl (by kernel_rfl) (by kernel_rfl) (by kernel_rfl) (fun _ _ _ h => h) (Or.inl ⟨by rfl, fun wS hSw => ?_⟩) (by assumption) ?_
        · clear hHeld
          have hrm := HRk.out
          clear hSw
          go_simp
        try simp only [Act.put, List.setIfInBounds_toArray, List.set_cons_zero, List.set_cons_succ]
        refine wpAnyH_take (i := 9) (oi := { dst := some 9, op := Op.assign (Operand.tmp 44), type := 3, pos := "law.go:224", after := #[{ on := 4, ground := Ground.data }, { on := 0, ground := Ground.phase }, { on := 1, ground := Ground.phase }, { on := 2, ground := Ground.phase }, { on := 3, ground := Ground.phase }, { on := 4, ground := Ground.phase }, { on := 5, ground := Ground.textOnly Departure.lateStores }, { on := 6, ground := Ground.textOnly Departure.lateStores }, { on := 7, ground := Ground.textOnly Departure.lateStoresUnsure }, { on := 8, ground := Ground.textOnly Departure.lateStores }], guard := none }) (v := .int .i64 (fr : Int)) rfl (by kernel_rfl) (by kernel_rfl) (by kernel_rfl) (fun _ _ _ h => h) (Or.inl ⟨by rfl, fun wS hSw => ?_⟩) (by assumption) ?_
        · clear hHeld
          clear hSw
          go_simp
        try simp only [Act.put, List.setIfInBounds_toArray, List.set_cons_zero, List.set_cons_succ]
        refine wpAnyH_take (i := 10) (oi := { dst := some 10, op := Op.assign (Operand.tmp 48), type := 3, pos := "law.go:224", after := #[{ on := 8, ground := Ground.data }, { on := 9, ground := Ground.chain }, { on := 0, ground := Ground.phase }, { on := 1, ground := Ground.phase }, { on := 2, ground := Ground.phase }, { on := 3, ground := Ground.phase }, { on := 4, ground := Ground.phase }, { on := 5, ground := Ground.phase }, { on := 6, ground := Ground.phase }, { on := 7, ground := Ground.phase }, { on := 8, ground := Ground.phase }, { on := 9, ground := Ground.phase }], guard := none }) (v := .int .i64 (tg : Int)) rfl (by kernel_rfl) (by kernel_rfl) (by kernel_rfl) (fun _ _ _ h => h) (Or.inl ⟨by rfl, fun wS hSw => ?_⟩) (by assumption) ?_
        · clear hHeld
          clear hSw
          go_simp
        try simp only [Act.put, List.setIfInBounds_toArray, List.set_cons_zero, List.set_cons_succ]
        refine wpAnyH_done (by kernel_rfl) ?_ _
        clear hHeld HM HRk
        have cf := HMd.out.row.get hfn
        have HPg := hid (nping_any HMd.out.nt HE.out hfn tg htn (by omega) (by decide))
        have HO0 := hid (HMd.out.none)
        go_wp2_with fail
        refine HPg.out.mono ?_; rintro r w3 ⟨⟨x, rfl⟩, F3, hK3, hN3⟩
        have HM3 := hid (HMd.out.node hfn hK3 hN3)
        have hgo := hN3.good fr hfn
        have hle := hN3.len fr hfn
        have cf := HM3.out.row.get hfn
        have HOu := hid (nouts_any HM3.out.nt hfn)
        clear hK3 hN3 HPg HMd
        obtain ⟨O1, hO1⟩ : ∃ O, os fr ++ tellO (vs fr) 1 (tg : Int) = O := ⟨_, rfl⟩
        rw [hO1] at HM3 hgo hle HOu
        rw [upd_same] at hgo hle
        have HGo := hid hgo
        have HLe := hid hle
        obtain ⟨n1, hn1⟩ : ∃ x, O1.length = x := ⟨_, rfl⟩
        have HN1 := hid hn1
        simp only [upd_same, hn1] at HOu
        clear hO1 hgo hle hn1
        go_wp2_with fail
        refine HOu.out.mono ?_; rintro r w4 ⟨a4, c4, rfl, F4, hK4, hN4, hOn⟩
        have hM4 := HM3.out.node hfn (show Kp (upd Fs fr F3 fr) F4 w3 w4 by rw [upd_same]; exact hK4) hN4
        obtain ⟨os4, hos4⟩ : ∃ o, upd (upd os fr O1) fr [] = o := ⟨_, rfl⟩
        have hz4 : ∀ i, i < n → os4 i = [] := fun i hi => by
          rw [← hos4]
          by_cases e : i = fr
          · rw [e, upd_same]
          · rw [upd_ne _ _ e, upd_ne _ _ e]; exact HO0.out i hi
        rw [hos4] at hM4
        have HM4 := hid (hM4.tight hz4)
        have HO4 := hid hOn.out
        obtain ⟨Fs4, hFs4⟩ : ∃ F, upd (upd Fs fr F3) fr F4 = F := ⟨_, rfl⟩
        rw [hFs4] at HM4
        have hn1 : n1 ≤ 1 := by have := HLe.out; have := HN1.out; omega
        clear hK4 hN4 hOn hM4 hos4 hz4 hFs4 HOu HM3 HO0 cf
        have hn1z : (n1 : Int) ≤ 1 := by omega
        have hnwz : (nw : Int) ≤ 600 := by omega
        go_wp2_with fail
        go_loopw [6, 61] (fun wv j wr => ∃ q : Nat, q ≤ n1 ∧ j = .int .i64 (q : Int) ∧ ∃ aw nx cw, wv = .slice aw nx cw ∧ nx = nw + q ∧ nx ≤ cw ∧ Hid (∃ L, Ms w wr NC C n lb bs vbs Fs4 vs os4 0 (.slice aw nx cw) L ∧ L.length = nx) ∧ Hid (q = 0 → OutB wr a4 O1)) (fun _ j _ => n1 - (intOf j).toNat)
        case atStart => exact ⟨0, Nat.zero_le _, rfl, aw, nw, cw, rfl, rfl, by omega, ⟨_, HM4.out, HLn.out⟩, fun _ => HO4.out⟩
        case round =>
          clear HM4 HO4
          obtain ⟨q, hq, rfl, aq, nx, cq, rfl, hnx, hcq, HX, HOq⟩ := hrel
          have HNx := hid hnx
          have hnxz : (nx : Int) ≤ 603 := by omega
          clear hnx
          by_cases hql : q < n1
          · have hqz : (q : Int) < (n1 : Int) := by omega
            have HQ0 : Hid (q = 0) := by show _ = _; omega
            obtain ⟨Lq, hMq, hLq⟩ := HX.out
            have HMq := hid hMq
            have HLq := hid hLq
            have hqL : q < O1.length := by have := HN1.out; omega
            obtain ⟨x, o, rfl, hxl, hr⟩ := HOq.out HQ0.out (fun e => by rw [e] at hqL; exact absurd hqL (Nat.not_lt_zero _))
            obtain ⟨e, hee⟩ : ∃ e, O1[q] = e := ⟨_, rfl⟩
            obtain ⟨r1, r2⟩ := hr q hqL
            rw [hee] at r1 r2
            have hem : e ∈ O1 := by rw [← hee]; exact List.getElem_mem hqL
            have HLc := hid (lt_cells HGo.out hem)
            have HGl := hid (good_lt hfn HGo.out (ltOf fr e) (List.mem_map_of_mem hem))
            have HRg : Hid (_root_.Go.World.rangeAt wr x (o + q * 2) (#[Value.int .i64 e.1, .string ⟨e.2.toArray⟩] : Array Value).toList) := range2n r1 r2
            have iO : (Tryz.prog.info? 69).map (·.size) = some (#[Value.int .i64 e.1, .string ⟨e.2.toArray⟩] : Array Value).toList.length := by show _ = some 2; kernel_rfl
            have iO2 : (Tryz.prog.info? 69).map (·.size) = some (#[Value.int .i64 e.1, .string ⟨e.2.toArray⟩] : Array Value).size := by show _ = some 2; kernel_rfl
            have oO : (#[Value.int .i64 e.1, .string ⟨e.2.toArray⟩] : Array Value).all (·.oneCell') = true := by simp [Value.oneCell']
            have zO : (#[.int .i64 0, .string ⟨#[]⟩] : Array Value).size = (#[Value.int .i64 e.1, .string ⟨e.2.toArray⟩] : Array Value).size := rfl
            have HC2 : Hid (∀ (W : World) (b : Nat), W.heap[b]? = some (.cells #[Value.int .i64 e.1, .string ⟨e.2.toArray⟩] 69 (0, 0)) → W.cell? ⟨b, 0, none⟩ = some (.int .i64 e.1) ∧ W.cell? ⟨b, 1, none⟩ = some (.string ⟨e.2.toArray⟩)) := fun W b h => ⟨cell_of_row W b 0 _ _ _ h, cell_of_row W b 1 _ _ _ h⟩
            obtain ⟨e1, he1⟩ : ∃ x, e.1 = x := ⟨_, rfl⟩
            obtain ⟨e2, he2⟩ : ∃ S : ByteArray, ⟨e.2.toArray⟩ = S := ⟨_, rfl⟩
            rw [he1, he2] at HLc HRg iO iO2 oO zO HC2
            obtain ⟨RX, hRX⟩ : ∃ C : Array Value, #[Value.int .i64 e1, .string e2] = C := ⟨_, rfl⟩
            rw [hRX] at HRg iO iO2 oO zO HC2
            have hta : RX.toList.toArray = RX := Array.toArray_toList
            have HZ := hid (heap_alloc_new wr (.cells #[.int .i64 0, .string ⟨#[]⟩] 69))
            have hb5 := below_setRow (g := wr.heap.size) (below_alloc wr (.cells #[.int .i64 0, .string ⟨#[]⟩] 69)) (Nat.le_refl _) RX
            have HB5 := hid (setRow_heap _ _ _ RX _ _ HZ.out)
            have HM5 := hid (HMq.out.call hb5)
            clear hr r1 r2 hee hem he1 he2 hRX hxl hqL HX HMq hMq hLq hb5 HOq
            go_upto_region 13 with (first | (refine wpList_load_mid rfl 69 _ rfl x (o + q * 2) rfl _ _ HRg.out Tryz.underlying69 rfl iO ?_; rw [hta]) | (refine wpList_store_row rfl 69 _ _ rfl wr.heap.size RX rfl rfl 69 _ HZ.out iO2 zO oO ?_))
            clear HZ HRg iO iO2 oO zO hta
            generalize (wr.alloc (.cells #[.int .i64 0, .string ⟨#[]⟩] 69)).setRow wr.heap.size RX = w5 at *
            generalize wr.heap.size = ob at *
            obtain ⟨k0, k1⟩ := HC2.out w5 ob HB5.out
            
            obtain ⟨a6, c6, w6, hr6, hM6, hc6, hx6⟩ := ms_push HM5.out (by have := HLq.out; have := HNx.out; omega) (ltOf fr e) HGl.out
            rw [HLc.out, HLq.out] at hr6
            rw [HLq.out] at hM6 hc6 hx6
            have HR6 := hid hr6
            have HM6 := hid hM6
            have HLn6 : Hid ((Lq ++ [ltOf fr e]).length = nx + 1) := by show _ = _; rw [List.length_append, HLq.out]; rfl
            clear hr6 hM6 hx6 HM5 HLc HGl HC2
            go_wp2_with (at_builtin; refine wpList_append_run rfl _ _ 66 rfl _ _ _ _ rfl rfl HR6.out ?_)
            go_roundw
            case rel => exact ⟨q + 1, by omega, by go_num, a6, nx + 1, c6, rfl, by have := HNx.out; omega, hc6, ⟨_, HM6.out, HLn6.out⟩, (fun h => by omega)⟩
            case measure => simp [intOf]; omega
          · obtain rfl : q = n1 := by omega
            obtain ⟨L1, hM1, hL1⟩ := HX.out
            have HM1 := hid hM1
            have HL1 := hid hL1
            have hnx2 : nx ≤ 2 * k + 1 := by have := HNx.out; omega
            clear HX hM1 hL1 HNx HOq HGo HN1 HLe
            by_cases h0 : nx = 0
            · subst h0
              go_wp2_with fail
              go_roundw
              case rel => exact ⟨k + 1, by omega, by go_num, aq, 0, cq, rfl, by omega, by omega, ⟨_, _, _, _, HM1.out, HL1.out⟩⟩
              case measure => simp [intOf]; omega
            have hnb : ((nx : Int) == 0) = false := beq_eq_false_iff_ne.2 (by omega)
            have hnz : ¬ nx = 0 := h0
            obtain ⟨ax, hax⟩ : ∃ ax : Nat, (max z 0).toNat % nx = ax := ⟨_, rfl⟩
            have HRa : Hid ((max z 0).tmod (nx : Int) = (ax : Int)) := by show _ = _; rw [← hax]; exact tmod_max z nx
            have haxn : ax < nx := by rw [← hax]; exact Nat.mod_lt _ (by omega)
            have haxz : (ax : Int) < (nx : Int) := by omega
            obtain ⟨m5, hm5⟩ : ∃ m : Nat, k % 5 = m := ⟨_, rfl⟩
            have HR5 : Hid ((k : Int).tmod 5 = (m5 : Int)) := by show _ = _; rw [← hm5]; rfl
            obtain ⟨m7, hm7⟩ : ∃ m : Nat, k % 7 = m := ⟨_, rfl⟩
            have HR7 : Hid ((k : Int).tmod 7 = (m7 : Int)) := by show _ = _; rw [← hm7]; rfl
            obtain ⟨g, cg, eg, hgl, hrg⟩ := HM1.out.way.get ax (by rw [HL1.out]; exact haxn)
            obtain rfl : aq = some ⟨g, 0, none⟩ := by injection eg with e _ _
            obtain ⟨l, hl⟩ : ∃ l, L1[ax]'(by rw [HL1.out]; exact haxn) = l := ⟨_, rfl⟩
            have HLt : Hid (GoodLt C n l) := HM1.out.lets l (by rw [← hl]; exact List.getElem_mem _)
            rw [hl] at hrg
            have iL := infoLtc l
            have iLl : (Tryz.prog.info? 71).map (·.size) = some (ltCells l).toList.length := by rw [Array.length_toList]; exact iL
            have hta : (ltCells l).toList.toArray = ltCells l := Array.toArray_toList
            have oL : (ltCells l).all (·.oneCell') = true := by simp [ltCells, Value.oneCell']
            have zL : (#[.int .i64 0, .int .i64 0, .string ⟨#[]⟩] : Array Value).size = (ltCells l).size := rfl
            have HZ := hid (heap_alloc_new wr (.cells #[.int .i64 0, .int .i64 0, .string ⟨#[]⟩] 71))
            have hb5 := below_setRow (g := wr.heap.size) (below_alloc wr (.cells #[.int .i64 0, .int .i64 0, .string ⟨#[]⟩] 71)) (Nat.le_refl _) (ltCells l)
            have HBx5 : Hid (Bx _ wr.heap.size (.slice (some ⟨g, 0, none⟩) nx cq) l) := ⟨setRow_heap _ _ _ (ltCells l) _ _ HZ.out, fun e => by
              have e : g = wr.heap.size := Option.some.inj (show some g = some wr.heap.size from e)
              omega⟩
            have HM5 := hid (HM1.out.call hb5)
            have HRg := hid hrg
            have HLc : Hid (∀ (W : World) (x : Nat) (v : Value), Bx W x v l → W.cell? ⟨x, 1, none⟩ = some (.int .i64 (l.dst : Int)) ∧ W.cell? ⟨x, 2, none⟩ = some (.string ⟨l.s.toArray⟩)) := fun W x v h => ⟨cell_of_row W x 1 _ _ _ h.box, cell_of_row W x 2 _ _ _ h.box⟩
            obtain ⟨LC, hLC⟩ : ∃ C, ltCells l = C := ⟨_, rfl⟩
            rw [hLC] at iL iLl hta oL zL hb5 HBx5 HM5 HRg
            have hrm := HRa.out
            have hr5 := HR5.out
            clear hax hm5 hm7 eg hgl hrg hl hLC hb5 HM1 h0 HRm
            go_upto_region 18 with (first | (refine wpList_load_mid rfl 71 _ rfl g (ax * 3) rfl _ _ HRg.out Tryz.underlying71 rfl iLl ?_; rw [hta]) | (refine wpList_store_row rfl 71 _ _ rfl wr.heap.size LC rfl rfl 71 _ HZ.out iL zL oL ?_))
            clear HZ HRg iL iLl hta oL zL hnb hrm
            generalize (wr.alloc (.cells #[.int .i64 0, .int .i64 0, .string ⟨#[]⟩] 71)).setRow wr.heap.size LC = w5 at *
            generalize wr.heap.size = xb at *
            go_upto_if 89 with fail
            go_cut [6] (fun wv wx => ∃ a2 n2 c2, wv = .slice a2 n2 c2 ∧ n2 ≤ 2 * k + 1 ∧ n2 ≤ c2 ∧ Hid (∃ L2, Ms w wx NC C n lb bs vbs Fs4 vs os4 0 (.slice a2 n2 c2) L2 ∧ L2.length = n2) ∧ Hid (Bx wx xb (.slice a2 n2 c2) l))
            case first =>
              by_cases h5 : m5 = 4
              · subst h5
                go_wp2_with fail
                go_meet
                exact ⟨_, _, _, rfl, hnx2, hcq, ⟨L1, HM5.out, HL1.out⟩, HBx5.out⟩
              · have h5b : ((m5 : Int) != 4) = true := bne_iff_ne.2 (by omega)
                go_upto_region 19 with fail
                have hca : ¬ cq < ax := by omega
                have hwx : IntKind.i64.wrap ((ax : Int) + 1) = (ax : Int) + 1 := by rw [IntKind.wrap_i64]; omega
                have hin : 0 ≤ (ax : Int) + 1 ∧ (ax : Int) + 1 ≤ (nx : Int) := by omega
                obtain ⟨ya, hya⟩ : ∃ y : Addr, (if cq = ax + 1 then some (⟨g, 0, none⟩ : Addr) else some ⟨g, (ax + 1) * 3, none⟩) = some y := by split <;> exact ⟨_, rfl⟩
                have hyy : L1.length - (ax + 1) ≠ 0 → ya = ⟨g, (ax + 1) * 3, none⟩ := fun h => by
                  rw [if_neg (by rw [HL1.out] at h; omega)] at hya
                  exact (Option.some.inj hya).symm
                have HYa := hid hya
                have hM5 := HM5.out.drew
                rw [← HL1.out] at hM5
                obtain ⟨a8, c8, w8, hr8, hM8, hl8, hc8, hx8⟩ := ms_cut hM5 (by rw [HL1.out]; omega) ax (by rw [HL1.out]; exact haxn) (cq - (ax + 1)) ya hyy
                rw [HL1.out] at hr8 hM8 hl8 hc8 hx8
                have HR8 := hid hr8
                have HM8 := hid hM8
                have HL8 := hid hl8
                have HBx8 := hid (hx8 xb l (HBx5.out.call (Below.refl _ _).drew))
                clear hya hyy hM5 hr8 hM8 hl8 hx8
                refine wp_region_held_drew (S := fun _ => True) (by kernel_rfl) True.intro (fun hHeld => ?_)
                refine wpAnyH_take (i := 0) (oi := { dst := some 90, op := Op.move (Operand.tmp 6), type := 66, pos := "law.go:235", after := #[], guard := none }) (v := .slice (some ⟨g, 0, none⟩) nx cq) rfl (by kernel_rfl) (by kernel_rfl) (by kernel_rfl) (fun _ _ _ h => h) (Or.inl ⟨by rfl, fun wS hSw => ?_⟩) (by assumption) ?_
                · clear hHeld
                  clear hSw
                  go_simp
                try simp only [Act.put, List.setIfInBounds_toArray, List.set_cons_zero, List.set_cons_succ]
                refine wpAnyH_take (i := 1) (oi := { dst := some 91, op := Op.move (Operand.tmp 13), type := 3, pos := "law.go:235", after := #[], guard := none }) (v := .int .i64 (ax : Int)) rfl (by kernel_rfl) (by kernel_rfl) (by kernel_rfl) (fun _ _ _ h => h) (Or.inl ⟨by rfl, fun wS hSw => ?_⟩) (by assumption) ?_
                · clear hHeld
                  clear hSw
                  go_simp
                try simp only [Act.put, List.setIfInBounds_toArray, List.set_cons_zero, List.set_cons_succ]
                refine wpAnyH_take (i := 2) (oi := { dst := some 92, op := Op.move (Operand.tmp 13), type := 3, pos := "law.go:235", after := #[], guard := none }) (v := .int .i64 (ax : Int)) rfl (by kernel_rfl) (by kernel_rfl) (by kernel_rfl) (fun _ _ _ h => h) (Or.inl ⟨by rfl, fun wS hSw => ?_⟩) (by assumption) ?_
                · clear hHeld
                  clear hSw
                  go_simp
                try simp only [Act.put, List.setIfInBounds_toArray, List.set_cons_zero, List.set_cons_succ]
                refine wpAnyH_take (i := 3) (oi := { dst := some 93, op := Op.slice 66 (Operand.tmp 90) none (some (Operand.tmp 91)) (some (Operand.tmp 92)), type := 66, pos := "law.go:235", after := #[{ on := 0, ground := Ground.data }, { on := 1, ground := Ground.data }, { on := 2, ground := Ground.data }], guard := none }) (v := .slice (some ⟨g, 0, none⟩) ax ax) rfl (by kernel_rfl) (by kernel_rfl) (by kernel_rfl) (fun _ _ _ h => h) (Or.inl ⟨by rfl, fun wS hSw => ?_⟩) (by assumption) ?_
                · clear hHeld
                  clear hSw
                  go_simp
                try simp only [Act.put, List.setIfInBounds_toArray, List.set_cons_zero, List.set_cons_succ]
                refine wpAnyH_take (i := 4) (oi := { dst := some 94, op := Op.move (Operand.tmp 6), type := 66, pos := "law.go:235", after := #[], guard := none }) (v := .slice (some ⟨g, 0, none⟩) nx cq) rfl (by kernel_rfl) (by kernel_rfl) (by kernel_rfl) (fun _ _ _ h => h) (Or.inl ⟨by rfl, fun wS hSw => ?_⟩) (by assumption) ?_
                · clear hHeld
                  clear hSw
                  go_simp
                try simp only [Act.put, List.setIfInBounds_toArray, List.set_cons_zero, List.set_cons_succ]
                refine wpAnyH_take (i := 5) (oi := { dst := some 95, op := Op.move (Operand.tmp 13), type := 3, pos := "law.go:235", after := #[], guard := none }) (v := .int .i64 (ax : Int)) rfl (by kernel_rfl) (by kernel_rfl) (by kernel_rfl) (fun _ _ _ h => h) (Or.inl ⟨by rfl, fun wS hSw => ?_⟩) (by assumption) ?_
                · clear hHeld
                  clear hSw
                  go_simp
                try simp only [Act.put, List.setIfInBounds_toArray, List.set_cons_zero, List.set_cons_succ]
                refine wpAnyH_take (i := 6) (oi := { dst := some 96, op := Op.binOp BinOp.add 3 (Operand.tmp 95) (Operand.const (Value.int IntKind.i64 1)) 3, type := 3, pos := "law.go:235", after := #[{ on := 5, ground := Ground.data }], guard := none }) (v := .int .i64 ((ax : Int) + 1)) rfl (by kernel_rfl) (by kernel_rfl) (by kernel_rfl) (fun _ _ _ h => h) (Or.inl ⟨by rfl, fun wS hSw => ?_⟩) (by assumption) ?_
                · clear hHeld
                  clear hSw
                  go_simp
                try simp only [Act.put, List.setIfInBounds_toArray, List.set_cons_zero, List.set_cons_succ]
                refine wpAnyH_take (i := 7) (oi := { dst := some 97, op := Op.slice 66 (Operand.tmp 94) (some (Operand.tmp 96)) none none, type := 66, pos := "law.go:235", after := #[{ on := 4, ground := Ground.data }, { on := 6, ground := Ground.data }], guard := none }) (v := .slice (some ya) (nx - (ax + 1)) (cq - (ax + 1))) rfl (by kernel_rfl) (by kernel_rfl) (by kernel_rfl) (fun _ _ _ h => h) (Or.inl ⟨by rfl, fun wS hSw => ?_⟩) (by assumption) ?_
                · clear hHeld
                  have hya := HYa.out
                  clear hSw
                  go_simp
                try simp only [Act.put, List.setIfInBounds_toArray, List.set_cons_zero, List.set_cons_succ]
                refine wpAnyH_ready (rs := [8]) (by kernel_rfl) (by simp) ?_
                refine AllReadyH.cons (o := { dst := some 98, op := Op.call { callee := Callee.builtin Builtin.append, args := #[Operand.tmp 93, Operand.tmp 97], argTypes := #[66, 66] }, type := 66, pos := "law.go:235", after := #[{ on := 3, ground := Ground.data }, { on := 7, ground := Ground.data }], guard := none }) rfl (fun K hK => ?_) AllReadyH.nil
                clear hHeld
                rw [if_pos (by rfl)]
                refine wp_app _ _ 66 rfl _ _ rfl rfl HR8.out ?_
                refine hK.out _ _ True.intro (fun hHeld => ?_)
                clear hK K
                try simp only [Act.put, List.setIfInBounds_toArray, List.set_cons_zero, List.set_cons_succ]
                refine wpAnyH_take (i := 9) (oi := { dst := some 6, op := Op.assign (Operand.tmp 98), type := 66, pos := "law.go:235", after := #[{ on := 8, ground := Ground.data }, { on := 8, ground := Ground.chain }, { on := 0, ground := Ground.phase }, { on := 1, ground := Ground.phase }, { on := 2, ground := Ground.phase }, { on := 3, ground := Ground.phase }, { on := 4, ground := Ground.phase }, { on := 5, ground := Ground.phase }, { on := 6, ground := Ground.phase }, { on := 7, ground := Ground.phase }, { on := 8, ground := Ground.phase }], guard := none }) (v := .slice a8 (nx - 1) c8) rfl (by kernel_rfl) (by kernel_rfl) (by kernel_rfl) (fun _ _ _ h => h) (Or.inl ⟨by rfl, fun wS hSw => ?_⟩) (by assumption) ?_
                · clear hHeld
                  clear hSw
                  go_simp
                try simp only [Act.put, List.setIfInBounds_toArray, List.set_cons_zero, List.set_cons_succ]
                refine wpAnyH_done (by kernel_rfl) ?_ _
                clear hHeld
                go_wp2_with fail
                go_meet
                exact ⟨a8, nx - 1, c8, rfl, by omega, hc8, ⟨_, HM8.out, HL8.out⟩, HBx8.out⟩
            case rest =>
            obtain ⟨a2, n2, c2, rfl, hn2, hc2, HX2, HBx2⟩ := hcut
            clear HM5 HBx5 HL1 HRa HR5 hr5 haxn haxz hnz hnx2 hcq hnxz
            generalize wc = w6 at *
            have hr7 := HR7.out
            go_upto_if 101 with fail
            clear hr7
            go_cut [6] (fun wv wx => ∃ a3 n3 c3, wv = .slice a3 n3 c3 ∧ n3 ≤ 2 * k + 2 ∧ n3 ≤ c3 ∧ Hid (∃ Fs vs os L2, Ms w wx NC C n lb bs vbs Fs vs os 0 (.slice a3 n3 c3) L2 ∧ L2.length = n3) ∧ Hid (Bx wx xb (.slice a3 n3 c3) l))
            case first =>
              obtain ⟨L2, hM2, hL2⟩ := HX2.out
              have HM2 := hid hM2
              have HL2 := hid hL2
              clear HX2 hM2 hL2
              by_cases h7 : m7 = 6
              · subst h7
                go_wp2_with fail
                go_meet
                exact ⟨_, _, _, rfl, by omega, hc2, ⟨_, _, _, _, HM2.out, HL2.out⟩, HBx2.out⟩
              · have h7b : ((m7 : Int) != 6) = true := bne_iff_ne.2 (by omega)
                obtain ⟨hlf, hld, hlne, p, hgp, hls⟩ := HLt.out
                have hldz : (l.dst : Int) < (n : Int) := by omega
                have HM2d := hid HM2.out.drew
                have HBxd := hid (HBx2.out.call (Below.refl _ _).drew)
                have HTk := hid (ntake_any HM2d.out.nt HE.out hld hgp hlf (fun e => hlne e.symm) (by omega) (by decide))
                have HO0 := hid HM2.out.none
                have HS : Hid (∀ (W : World) (v : Value), Bx W xb v l → Pts W lb bs n → W.cell? ⟨xb, 1, none⟩ = some (.int .i64 (l.dst : Int)) ∧ W.cell? ⟨xb, 2, none⟩ = some (.string ⟨(encS p).toArray⟩) ∧ W.cell? ⟨lb, l.dst, none⟩ = some (.pointer (some ⟨bs l.dst, 0, none⟩))) := fun W v h1 h2 => by
                  obtain ⟨q1, q2⟩ := HLc.out W xb v h1
                  rw [hls] at q2
                  exact ⟨q1, q2, h2.get hld⟩
                have HTy := hid (HM2d.out.nt.ty l.dst hld)
                obtain ⟨td, htd⟩ : ∃ t, l.dst = t := ⟨_, rfl⟩
                have HTd := hid htd
                obtain ⟨SB, hSB⟩ : ∃ S : ByteArray, ⟨(encS p).toArray⟩ = S := ⟨_, rfl⟩
                rw [htd] at hld hldz HTk HS HTy
                rw [hSB] at HTk HS
                clear htd hSB hls hlf hlne HM2
                go_upto_region 21 with fail
                have hs0 := HS.out _ _ HBxd.out HM2d.out.row
                refine wp_region_held_drew (S := fun W => W.cell? ⟨xb, 1, none⟩ = some (.int .i64 (td : Int)) ∧ W.cell? ⟨xb, 2, none⟩ = some (.string SB) ∧ W.cell? ⟨lb, td, none⟩ = some (.pointer (some ⟨bs td, 0, none⟩))) (by kernel_rfl) hs0 (fun hHeld => ?_)
                clear hs0
                refine wpAnyH_take (i := 0) (oi := { dst := some 102, op := Op.move (Operand.tmp 5), type := 64, pos := "law.go:238", after := #[], guard := none }) (v := .slice (some ⟨lb, 0, none⟩) n cl) rfl (by kernel_rfl) (by kernel_rfl) (by kernel_rfl) (fun _ _ _ h => h) (Or.inl ⟨by rfl, fun wS hSw => ?_⟩) (by assumption) ?_
                · clear hHeld
                  clear hSw
                  go_simp
                try simp only [Act.put, List.setIfInBounds_toArray, List.set_cons_zero, List.set_cons_succ]
                refine wpAnyH_take (i := 1) (oi := { dst := some 103, op := Op.fieldAddr 71 (Operand.tmp 14) 1, type := 0, pos := "law.go:238", after := #[], guard := none }) (v := .pointer (some ⟨xb, 1, none⟩)) rfl (by kernel_rfl) (by kernel_rfl) (by kernel_rfl) (fun _ _ _ h => h) (Or.inl ⟨by rfl, fun wS hSw => ?_⟩) (by assumption) ?_
                · clear hHeld
                  clear hSw
                  go_simp
                try simp only [Act.put, List.setIfInBounds_toArray, List.set_cons_zero, List.set_cons_succ]
                refine wpAnyH_take (i := 2) (oi := { dst := some 104, op := Op.load 3 (Operand.tmp 103), type := 3, pos := "law.go:238", after := #[{ on := 1, ground := Ground.data }], guard := none }) (v := .int .i64 (td : Int)) rfl (by kernel_rfl) (by kernel_rfl) (by kernel_rfl) (fun _ _ _ h => h) (Or.inl ⟨by rfl, fun wS hSw => ?_⟩) (by assumption) ?_
                · clear hHeld
                  obtain ⟨s0, s1, s2⟩ := hSw
                  go_simp
                try simp only [Act.put, List.setIfInBounds_toArray, List.set_cons_zero, List.set_cons_succ]
                refine wpAnyH_take (i := 3) (oi := { dst := some 105, op := Op.indexAddr 64 (Operand.tmp 102) (Operand.tmp 104), type := 0, pos := "law.go:238", after := #[{ on := 0, ground := Ground.data }, { on := 2, ground := Ground.data }], guard := none }) (v := .pointer (some ⟨lb, td, none⟩)) rfl (by kernel_rfl) (by kernel_rfl) (by kernel_rfl) (fun _ _ _ h => h) (Or.inl ⟨by rfl, fun wS hSw => ?_⟩) (by assumption) ?_
                · clear hHeld
                  clear hSw
                  go_simp
                try simp only [Act.put, List.setIfInBounds_toArray, List.set_cons_zero, List.set_cons_succ]
                refine wpAnyH_take (i := 4) (oi := { dst := some 106, op := Op.load 28 (Operand.tmp 105), type := 28, pos := "law.go:238", after := #[{ on := 3, ground := Ground.data }], guard := none }) (v := .pointer (some ⟨bs td, 0, none⟩)) rfl (by kernel_rfl) (by kernel_rfl) (by kernel_rfl) (fun _ _ _ h => h) (Or.inl ⟨by rfl, fun wS hSw => ?_⟩) (by assumption) ?_
                · clear hHeld
                  obtain ⟨s0, s1, s2⟩ := hSw
                  go_simp
                try simp only [Act.put, List.setIfInBounds_toArray, List.set_cons_zero, List.set_cons_succ]
                refine wpAnyH_take (i := 5) (oi := { dst := some 107, op := Op.fieldAddr 71 (Operand.tmp 14) 2, type := 0, pos := "law.go:238", after := #[], guard := none }) (v := .pointer (some ⟨xb, 2, none⟩)) rfl (by kernel_rfl) (by kernel_rfl) (by kernel_rfl) (fun _ _ _ h => h) (Or.inl ⟨by rfl, fun wS hSw => ?_⟩) (by assumption) ?_
                · clear hHeld
                  clear hSw
                  go_simp
                try simp only [Act.put, List.setIfInBounds_toArray, List.set_cons_zero, List.set_cons_succ]
                refine wpAnyH_take (i := 6) (oi := { dst := some 108, op := Op.load 9 (Operand.tmp 107), type := 9, pos := "law.go:238", after := #[{ on := 5, ground := Ground.data }], guard := none }) (v := .string SB) rfl (by kernel_rfl) (by kernel_rfl) (by kernel_rfl) (fun _ _ _ h => h) (Or.inl ⟨by rfl, fun wS hSw => ?_⟩) (by assumption) ?_
                · clear hHeld
                  obtain ⟨s0, s1, s2⟩ := hSw
                  go_simp
                try simp only [Act.put, List.setIfInBounds_toArray, List.set_cons_zero, List.set_cons_succ]
                refine wpAnyH_ready (rs := [7]) (by kernel_rfl) (by simp) ?_
                refine AllReadyH.cons (o := { dst := some 109, op := Op.call { callee := Callee.value (Operand.func 17), args := #[Operand.tmp 106, Operand.tmp 108], argTypes := #[28, 9] }, type := 4, pos := "law.go:238", after := #[{ on := 4, ground := Ground.data }, { on := 6, ground := Ground.data }], guard := none }) rfl (fun K hK => ?_) AllReadyH.nil
                clear hHeld
                go_simp
                refine HTk.out.mono ?_; rintro r w7 ⟨⟨x, rfl⟩, F7, hK7, hN7⟩
                have HM7 := hid (HM2d.out.node hld hK7 hN7)
                have HBx7 := hid (HBxd.out.node HTy.out hK7)
                have hgo := hN7.good td hld
                have hle := hN7.len td hld
                have HOu := hid (nouts_any HM7.out.nt hld)
                clear hK7 hN7 HTk HTy HM2d HBxd
                obtain ⟨O2, hO2⟩ : ∃ O, os4 td ++ bOut (vs td) (encS p) = O := ⟨_, rfl⟩
                rw [hO2] at HM7 hgo hle HOu
                rw [upd_same] at hgo hle
                have HGo2 := hid hgo
                have HLe2 := hid hle
                obtain ⟨no, hno⟩ : ∃ x, O2.length = x := ⟨_, rfl⟩
                have HNo2 := hid hno
                simp only [upd_same, hno] at HOu
                obtain ⟨vs7, hvs7⟩ : ∃ f, upd vs td (bView (vs td) (encS p)) = f := ⟨_, rfl⟩
                rw [hvs7] at HM7 HOu
                clear hO2 hgo hle hno hvs7
                have HS7 := hid (HS.out _ _ HBx7.out HM7.out.row)
                go_wp2_with fail
                refine hK.out _ _ HS7.out (fun hHeld => ?_)
                clear hK K
                try simp only [Act.put, List.setIfInBounds_toArray, List.set_cons_zero, List.set_cons_succ]
                refine wpAnyH_done (by kernel_rfl) ?_ _
                clear hHeld
                obtain ⟨k1, k2, k3⟩ := HS7.out
                go_wp2_with fail
                refine HOu.out.mono ?_; rintro r w8 ⟨a4, c4, rfl, F8, hK8, hN8, hOn⟩
                have hty8 := HM7.out.nt.ty td hld
                have hM8 := HM7.out.node hld (show Kp (upd Fs4 td F7 td) F8 w7 w8 by rw [upd_same]; exact hK8) hN8
                rw [upd_same] at hty8
                have HBx8 := hid (HBx7.out.node hty8 hK8)
                obtain ⟨os8, hos8⟩ : ∃ o, upd (upd os4 td O2) td [] = o := ⟨_, rfl⟩
                have hz8 : ∀ i, i < n → os8 i = [] := fun i hi => by
                  rw [← hos8]
                  by_cases e : i = td
                  · rw [e, upd_same]
                  · rw [upd_ne _ _ e, upd_ne _ _ e]; exact HO0.out i hi
                rw [hos8] at hM8
                have HM8 := hid (hM8.tight hz8)
                have HO8 := hid hOn.out
                obtain ⟨Fs8, hFs8⟩ : ∃ F, upd (upd Fs4 td F7) td F8 = F := ⟨_, rfl⟩
                rw [hFs8] at HM8
                have hno1 : no ≤ 1 := by have := HLe2.out; have := HNo2.out; omega
                have hnoz : (no : Int) ≤ 1 := by omega
                have hn2z : (n2 : Int) ≤ 601 := by omega
                clear hK8 hN8 hOn hM8 hos8 hz8 hFs8 HOu HM7 HO0 k1 k2 k3 hty8 HBx7 HS7 HBx2
                go_wp2_with fail
                go_loopw [6, 117] (fun wv j wr => ∃ q : Nat, q ≤ no ∧ j = .int .i64 (q : Int) ∧ ∃ aw nx cw, wv = .slice aw nx cw ∧ nx = n2 + q ∧ nx ≤ cw ∧ Hid (∃ L, Ms w wr NC C n lb bs vbs Fs8 vs7 os8 0 (.slice aw nx cw) L ∧ L.length = nx) ∧ Hid (q = 0 → OutB wr a4 O2) ∧ Hid (Bx wr xb (.slice aw nx cw) l)) (fun _ j _ => no - (intOf j).toNat)
                case atStart => exact ⟨0, Nat.zero_le _, rfl, a2, n2, c2, rfl, rfl, by omega, ⟨_, HM8.out, HL2.out⟩, fun _ => HO8.out, HBx8.out⟩
                case round =>
                  clear HM8 HO8 HBx8
                  obtain ⟨q, hq, rfl, aq, nx, cq, rfl, hnx, hcq, HX, HOq, HBx⟩ := hrel
                  have HNx := hid hnx
                  have hnxz : (nx : Int) ≤ 603 := by omega
                  clear hnx
                  by_cases hql : q < no
                  · have hqz : (q : Int) < (no : Int) := by omega
                    have HQ0 : Hid (q = 0) := by show _ = _; omega
                    obtain ⟨Lq, hMq, hLq⟩ := HX.out
                    have HMq := hid hMq
                    have HLq := hid hLq
                    have hqL : q < O2.length := by have := HNo2.out; omega
                    obtain ⟨x, o, rfl, hxl, hr⟩ := HOq.out HQ0.out (fun e => by rw [e] at hqL; exact absurd hqL (Nat.not_lt_zero _))
                    obtain ⟨e, hee⟩ : ∃ e, O2[q] = e := ⟨_, rfl⟩
                    obtain ⟨r1, r2⟩ := hr q hqL
                    rw [hee] at r1 r2
                    have hem : e ∈ O2 := by rw [← hee]; exact List.getElem_mem hqL
                    have HLc := hid (lt_cells HGo2.out hem)
                    have HGl := hid (good_lt hld HGo2.out (ltOf td e) (List.mem_map_of_mem hem))
                    have HRg : Hid (_root_.Go.World.rangeAt wr x (o + q * 2) (#[Value.int .i64 e.1, .string ⟨e.2.toArray⟩] : Array Value).toList) := range2n r1 r2
                    have iO : (Tryz.prog.info? 69).map (·.size) = some (#[Value.int .i64 e.1, .string ⟨e.2.toArray⟩] : Array Value).toList.length := by show _ = some 2; kernel_rfl
                    have iO2 : (Tryz.prog.info? 69).map (·.size) = some (#[Value.int .i64 e.1, .string ⟨e.2.toArray⟩] : Array Value).size := by show _ = some 2; kernel_rfl
                    have oO : (#[Value.int .i64 e.1, .string ⟨e.2.toArray⟩] : Array Value).all (·.oneCell') = true := by simp [Value.oneCell']
                    have zO : (#[.int .i64 0, .string ⟨#[]⟩] : Array Value).size = (#[Value.int .i64 e.1, .string ⟨e.2.toArray⟩] : Array Value).size := rfl
                    have HC2 : Hid (∀ (W : World) (b : Nat), W.heap[b]? = some (.cells #[Value.int .i64 e.1, .string ⟨e.2.toArray⟩] 69 (0, 0)) → W.cell? ⟨b, 0, none⟩ = some (.int .i64 e.1) ∧ W.cell? ⟨b, 1, none⟩ = some (.string ⟨e.2.toArray⟩)) := fun W b h => ⟨cell_of_row W b 0 _ _ _ h, cell_of_row W b 1 _ _ _ h⟩
                    obtain ⟨e1, he1⟩ : ∃ x, e.1 = x := ⟨_, rfl⟩
                    obtain ⟨e2, he2⟩ : ∃ S : ByteArray, ⟨e.2.toArray⟩ = S := ⟨_, rfl⟩
                    rw [he1, he2] at HLc HRg iO iO2 oO zO HC2
                    obtain ⟨RX, hRX⟩ : ∃ C : Array Value, #[Value.int .i64 e1, .string e2] = C := ⟨_, rfl⟩
                    rw [hRX] at HRg iO iO2 oO zO HC2
                    have hta : RX.toList.toArray = RX := Array.toArray_toList
                    have HZ := hid (heap_alloc_new wr (.cells #[.int .i64 0, .string ⟨#[]⟩] 69))
                    have hb5 := below_setRow (g := wr.heap.size) (below_alloc wr (.cells #[.int .i64 0, .string ⟨#[]⟩] 69)) (Nat.le_refl _) RX
                    have HB5 := hid (setRow_heap _ _ _ RX _ _ HZ.out)
                    have HM5 := hid (HMq.out.call hb5)
                    have HBx5 := hid (HBx.out.call hb5)
                    clear hr r1 r2 hee hem he1 he2 hRX hxl hqL HX HMq hMq hLq hb5 HOq HBx
                    go_upto_region 25 with (first | (refine wpList_load_mid rfl 69 _ rfl x (o + q * 2) rfl _ _ HRg.out Tryz.underlying69 rfl iO ?_; rw [hta]) | (refine wpList_store_row rfl 69 _ _ rfl wr.heap.size RX rfl rfl 69 _ HZ.out iO2 zO oO ?_))
                    clear HZ HRg iO iO2 oO zO hta
                    generalize (wr.alloc (.cells #[.int .i64 0, .string ⟨#[]⟩] 69)).setRow wr.heap.size RX = w5 at *
                    generalize wr.heap.size = ob at *
                    obtain ⟨k0, k1⟩ := HC2.out w5 ob HB5.out
                    obtain ⟨k2, k3, -⟩ := HS.out w5 _ HBx5.out HM5.out.row
                    obtain ⟨a6, c6, w6, hr6, hM6, hc6, hx6⟩ := ms_push HM5.out (by have := HLq.out; have := HNx.out; omega) (ltOf td e) HGl.out
                    rw [HLc.out, HLq.out] at hr6
                    rw [HLq.out] at hM6 hc6 hx6
                    have HR6 := hid hr6
                    have HM6 := hid hM6
                    have HLn6 : Hid ((Lq ++ [ltOf td e]).length = nx + 1) := by show _ = _; rw [List.length_append, HLq.out]; rfl
                    have HBx6 := hid (hx6 _ _ HBx5.out)
                    clear hr6 hM6 hx6 HM5 HLc HGl HC2 HBx5
                    go_wp2_with (at_builtin; refine wpList_append_run rfl _ _ 66 rfl _ _ _ _ rfl rfl HR6.out ?_)
                    go_roundw
                    case rel => exact ⟨q + 1, by omega, by go_num, a6, nx + 1, c6, rfl, by have := HNx.out; omega, hc6, ⟨_, HM6.out, HLn6.out⟩, (fun h => by omega), HBx6.out⟩
                    case measure => simp [intOf]; omega
                  · obtain rfl : q = no := by omega
                    obtain ⟨L3, hM3, hL3⟩ := HX.out
                    have HM3 := hid hM3
                    have HL3 := hid hL3
                    have hnx3 : nx ≤ 2 * k + 2 := by have := HNx.out; omega
                    clear HX hM3 hL3 HNx
                    go_wp2_with fail
                    go_meet
                    exact ⟨_, _, _, rfl, hnx3, hcq, ⟨_, _, _, _, HM3.out, HL3.out⟩, HBx.out⟩
            case rest =>
            obtain ⟨a3, n3, c3, rfl, hn3, hc3, HX3, HBx3⟩ := hcut
            obtain ⟨Fs9, vs9, os9, L3, hM3, hL3⟩ := HX3.out
            have HM3 := hid hM3
            have HL3 := hid hL3
            clear HX3 hM3 hL3 HX2 HBx2 HR7 hn2 hc2
            generalize wc = w7 at *
            obtain ⟨-, hld, -, -⟩ := HLt.out
            have hldz : (l.dst : Int) < (n : Int) := by omega
            have HMd := hid HM3.out.drew
            have HBxd := hid (HBx3.out.call (Below.refl _ _).drew)
            have HAg9 := hid (HAg.out (bs l.dst) (vbs l.dst) (Fs9 l.dst) (vs9 l.dst) (os9 l.dst) false _ (HMd.out.nt.bus l.dst hld) HMd.out.nt.bel h6 (fun s hs => (sees (HMd.out.nt.inv l.dst hld) (by omega) s hs).imp id (fun e => ⟨rfl, e⟩)))
            have HS : Hid (∀ (W : World) (v : Value), Bx W xb v l → Pts W lb bs n → W.heap[w.heap.size]? = some (.cells NC 63 (0, 0)) → W.cell? ⟨xb, 1, none⟩ = some (.int .i64 (l.dst : Int)) ∧ W.cell? ⟨lb, l.dst, none⟩ = some (.pointer (some ⟨bs l.dst, 0, none⟩)) ∧ W.rangeAt w.heap.size 0 NC.toList) := fun W v h1 h2 h3 => ⟨(HLc.out W xb v h1).1, h2.get hld, row_range h3⟩
            obtain ⟨td, htd⟩ : ∃ t, l.dst = t := ⟨_, rfl⟩
            rw [htd] at hld hldz HAg9 HS
            have iNl : (Tryz.prog.info? 63).map (·.size) = some NC.toList.length := by rw [Array.length_toList]; exact iN
            clear htd HM3 HBx3
            go_upto_region 27 with fail
            have hs0 := HS.out _ _ HBxd.out HMd.out.row HMd.out.net
            have u63 := Tryz.underlying63
            refine wp_region_held_drew (S := fun W => W.cell? ⟨xb, 1, none⟩ = some (.int .i64 (td : Int)) ∧ W.cell? ⟨lb, td, none⟩ = some (.pointer (some ⟨bs td, 0, none⟩)) ∧ W.rangeAt w.heap.size 0 NC.toList) (by kernel_rfl) hs0 (fun hHeld => ?_)
            clear hs0
            refine wpAnyH_take (i := 0) (oi := { dst := some 132, op := Op.move (Operand.tmp 5), type := 64, pos := "law.go:243", after := #[], guard := none }) (v := .slice (some ⟨lb, 0, none⟩) n cl) rfl (by kernel_rfl) (by kernel_rfl) (by kernel_rfl) (fun _ _ _ h => h) (Or.inl ⟨by rfl, fun wS hSw => ?_⟩) (by assumption) ?_
            · clear hHeld
              clear hSw
              go_simp
            try simp only [Act.put, List.setIfInBounds_toArray, List.set_cons_zero, List.set_cons_succ]
            refine wpAnyH_take (i := 1) (oi := { dst := some 133, op := Op.fieldAddr 71 (Operand.tmp 14) 1, type := 0, pos := "law.go:243", after := #[], guard := none }) (v := .pointer (some ⟨xb, 1, none⟩)) rfl (by kernel_rfl) (by kernel_rfl) (by kernel_rfl) (fun _ _ _ h => h) (Or.inl ⟨by rfl, fun wS hSw => ?_⟩) (by assumption) ?_
            · clear hHeld
              clear hSw
              go_simp
            try simp only [Act.put, List.setIfInBounds_toArray, List.set_cons_zero, List.set_cons_succ]
            refine wpAnyH_take (i := 2) (oi := { dst := some 134, op := Op.load 3 (Operand.tmp 133), type := 3, pos := "law.go:243", after := #[{ on := 1, ground := Ground.data }], guard := none }) (v := .int .i64 (td : Int)) rfl (by kernel_rfl) (by kernel_rfl) (by kernel_rfl) (fun _ _ _ h => h) (Or.inl ⟨by rfl, fun wS hSw => ?_⟩) (by assumption) ?_
            · clear hHeld
              obtain ⟨s0, s1, s2⟩ := hSw
              go_simp
            try simp only [Act.put, List.setIfInBounds_toArray, List.set_cons_zero, List.set_cons_succ]
            refine wpAnyH_take (i := 3) (oi := { dst := some 135, op := Op.indexAddr 64 (Operand.tmp 132) (Operand.tmp 134), type := 0, pos := "law.go:243", after := #[{ on := 0, ground := Ground.data }, { on := 2, ground := Ground.data }], guard := none }) (v := .pointer (some ⟨lb, td, none⟩)) rfl (by kernel_rfl) (by kernel_rfl) (by kernel_rfl) (fun _ _ _ h => h) (Or.inl ⟨by rfl, fun wS hSw => ?_⟩) (by assumption) ?_
            · clear hHeld
              clear hSw
              go_simp
            try simp only [Act.put, List.setIfInBounds_toArray, List.set_cons_zero, List.set_cons_succ]
            refine wpAnyH_take (i := 4) (oi := { dst := some 136, op := Op.load 28 (Operand.tmp 135), type := 28, pos := "law.go:243", after := #[{ on := 3, ground := Ground.data }], guard := none }) (v := .pointer (some ⟨bs td, 0, none⟩)) rfl (by kernel_rfl) (by kernel_rfl) (by kernel_rfl) (fun _ _ _ h => h) (Or.inl ⟨by rfl, fun wS hSw => ?_⟩) (by assumption) ?_
            · clear hHeld
              obtain ⟨s0, s1, s2⟩ := hSw
              go_simp
            try simp only [Act.put, List.setIfInBounds_toArray, List.set_cons_zero, List.set_cons_succ]
            refine wpAnyH_take (i := 5) (oi := { dst := some 137, op := Op.load 63 (Operand.tmp 2), type := 63, pos := "law.go:243", after := #[], guard := none }) (v := .agg NC) rfl (by kernel_rfl) (by kernel_rfl) (by kernel_rfl) (fun _ _ _ h => h) (yieldsIf_load_arr Array.toArray_toList (by rfl) _ _ rfl _ _ rfl (fun _ h => h.2.2) u63 rfl iNl) (by assumption) ?_
            try simp only [Act.put, List.setIfInBounds_toArray, List.set_cons_zero, List.set_cons_succ]
            refine wpAnyH_ready (rs := [6]) (by kernel_rfl) (by simp) ?_
            refine AllReadyH.cons (o := { dst := some 138, op := Op.call { callee := Callee.value (Operand.func 23), args := #[Operand.tmp 136, Operand.tmp 137, Operand.const (Value.bool false)], argTypes := #[28, 63, 4] }, type := 4, pos := "law.go:243", after := #[{ on := 4, ground := Ground.data }, { on := 5, ground := Ground.data }], guard := none }) rfl (fun K hK => ?_) AllReadyH.nil
            clear hHeld
            go_simp
            refine HAg9.out.mono ?_; rintro r w8 ⟨rfl, hb8⟩
            have HM8 := hid (HMd.out.call hb8)
            have HBx8 := hid (HBxd.out.call hb8)
            clear hb8 HAg9 HMd HBxd
            go_wp2_with fail
            refine hK.out _ _ (HS.out _ _ HBx8.out HM8.out.row HM8.out.net) (fun hHeld => ?_)
            clear hK K
            try simp only [Act.put, List.setIfInBounds_toArray, List.set_cons_zero, List.set_cons_succ]
            refine wpAnyH_take (i := 7) (oi := { dst := some 139, op := Op.unOp UnOp.not 4 (Operand.tmp 138), type := 4, pos := "law.go:243", after := #[{ on := 6, ground := Ground.data }], guard := none }) (v := .bool false) rfl (by kernel_rfl) (by kernel_rfl) (by kernel_rfl) (fun _ _ _ h => h) (Or.inl ⟨by rfl, fun wS hSw => ?_⟩) (by assumption) ?_
            · clear hHeld
              clear hSw
              go_simp
            try simp only [Act.put, List.setIfInBounds_toArray, List.set_cons_zero, List.set_cons_succ]
            refine wpAnyH_done (by kernel_rfl) ?_ _
            clear hHeld
            go_wp2_with fail
            go_roundw
            case rel => exact ⟨k + 1, by omega, by go_num, a3, n3, c3, rfl, by omega, hc3, ⟨_, _, _, _, HM8.out, HL3.out⟩⟩
            case measure => simp [intOf]; omega
      · obtain rfl : k = np := by omega
        obtain ⟨Fs, vs, os, L, hM, hLn⟩ := HX.out
        have HF0 := hid (fz_new hM)
        clear HX hM hLn HP HNP hnw hcw hk hlt
        go_wp2_with fail
        go_loopw [143] (fun i wr => ∃ f : Nat, f ≤ n ∧ i = .int .i64 (f : Int) ∧ Hid (∃ Fs vs os, Fz w wr NC C n lb bs vbs Fs vs os (6 * f) f 0)) (fun i _ => n - (intOf i).toNat)
        case atStart => exact ⟨0, Nat.zero_le _, rfl, _, _, _, HF0.out⟩
        case round =>
          clear HF0
          obtain ⟨f, hf, rfl, HX⟩ := hrel
          by_cases hlf : f < n
          · have hfz : (f : Int) < (n : Int) := by omega
            go_wp2_with fail
            go_loopw [148] (fun j wr => ∃ t : Nat, t ≤ n ∧ j = .int .i64 (t : Int) ∧ Hid (∃ Fs vs os, Fz w wr NC C n lb bs vbs Fs vs os (6 * f + t) f t)) (fun j _ => n - (intOf j).toNat)
            case atStart => exact ⟨0, Nat.zero_le _, rfl, HX.out⟩
            case round =>
              clear HX
              obtain ⟨t, ht, rfl, HX⟩ := hrel
              obtain ⟨Fs, vs, os, hF⟩ := HX.out
              have HF := hid hF
              clear HX hF
              by_cases hlt : t < n
              · have htz : (t : Int) < (n : Int) := by omega
                by_cases hft : t = f
                · subst hft
                  have hb : ((t : Int) != (t : Int)) = false := by simp
                  go_wp2_with fail
                  go_roundw
                  case rel => exact ⟨t + 1, by omega, by go_num, _, _, _, HF.out.skip⟩
                  case measure => simp [intOf]; omega
                have hb : ((f : Int) != (t : Int)) = true := bne_iff_ne.2 (by omega)
                have hne : ¬ (f : Int) = (t : Int) := by omega
                have cf := HF.out.row.get hlf
                have HPg := hid (fz_ping HF.out HE.out hlf hlt hft (by omega) (by omega))
                clear HF
                go_wp2_with fail
                refine HPg.out.mono ?_; rintro r w3 ⟨⟨x, rfl⟩, F3, o3, R, hP3⟩
                have HP3 := hid hP3
                have cf := HP3.out.row.get hlf
                have HOu := hid (pz_outs hP3 hlf)
                obtain ⟨Qf, pf, hRf, -, -, -, hQm⟩ := hP3.form
                have hRl : R.length ≤ 45 := by rw [hRf, List.length_append]; simp; omega
                obtain ⟨nr, hnr⟩ : ∃ x, R.length = x := ⟨_, rfl⟩
                have HNr := hid hnr
                rw [hnr] at HOu hRl
                have hnz : (nr : Int) ≤ 45 := by omega
                clear hP3 HPg hRf hQm hnr hRl HP3
                go_wp2_with fail
                refine HOu.out.mono ?_; rintro r w4 ⟨a4, c4, rfl, F4, o4, hD4⟩
                have HD4 := hid hD4
                clear hD4 HOu cf
                go_wp2_with fail
                go_loopw [166] (fun i wr => ∃ q : Nat, q ≤ nr ∧ i = .int .i64 (q : Int) ∧ Hid (∃ Fs vs os, Dz w wr NC C n lb bs vbs Fs vs os (6 * f + t) f t R a4 q)) (fun i _ => nr - (intOf i).toNat)
                case atStart => exact ⟨0, Nat.zero_le _, rfl, _, _, _, HD4.out⟩
                case round =>
                  clear HD4
                  obtain ⟨q, hq, rfl, HX⟩ := hrel
                  obtain ⟨Fq, vq, oq, hD⟩ := HX.out
                  have HD := hid hD
                  clear HX hD
                  by_cases hql : q < nr
                  · have hqz : (q : Int) < (nr : Int) := by omega
                    have hqL : q < R.length := by have := HNr.out; omega
                    obtain ⟨x, o, rfl, hxl, hr⟩ := HD.out.on.out (fun e => by rw [e] at hqL; exact absurd hqL (Nat.not_lt_zero _))
                    obtain ⟨r1, r2⟩ := hr q hqL
                    obtain ⟨d, p, hdp, hdn, htk⟩ := dz_take (lb := lb) (bs := bs) (vbs := vbs) (NC := NC) (a := some ⟨x, o, none⟩) HD.out.form HE.out hlf hlt hft (by omega) (by omega) hqL
                    have HTk := hid (fun W h => htk W Fq vq oq h)
                    rw [hdp] at r1 r2
                    have hdz : (d : Int) < (n : Int) := by omega
                    obtain ⟨SB, hSB⟩ : ∃ S : ByteArray, ⟨(encS p).toArray⟩ = S := ⟨_, rfl⟩
                    rw [hSB] at r2 HTk
                    have HRg : Hid (_root_.Go.World.rangeAt wr x (o + q * 2) (#[Value.int .i64 (d : Int), .string SB] : Array Value).toList) := range2n r1 r2
                    have iO : (Tryz.prog.info? 69).map (·.size) = some (#[Value.int .i64 (d : Int), .string SB] : Array Value).toList.length := by show _ = some 2; kernel_rfl
                    have iO2 : (Tryz.prog.info? 69).map (·.size) = some (#[Value.int .i64 (d : Int), .string SB] : Array Value).size := by show _ = some 2; kernel_rfl
                    have oO : (#[Value.int .i64 (d : Int), .string SB] : Array Value).all (·.oneCell') = true := by simp [Value.oneCell']
                    have zO : (#[.int .i64 0, .string ⟨#[]⟩] : Array Value).size = (#[Value.int .i64 (d : Int), .string SB] : Array Value).size := rfl
                    have HC2 : Hid (∀ (W : World) (b : Nat), W.heap[b]? = some (.cells #[Value.int .i64 (d : Int), .string SB] 69 (0, 0)) → Pts W lb bs n → W.cell? ⟨b, 0, none⟩ = some (.int .i64 (d : Int)) ∧ W.cell? ⟨b, 1, none⟩ = some (.string SB) ∧ W.cell? ⟨lb, d, none⟩ = some (.pointer (some ⟨bs d, 0, none⟩))) := fun W b h h2 => ⟨cell_of_row W b 0 _ _ _ h, cell_of_row W b 1 _ _ _ h, h2.get hdn⟩
                    obtain ⟨RX, hRX⟩ : ∃ C : Array Value, #[Value.int .i64 (d : Int), .string SB] = C := ⟨_, rfl⟩
                    rw [hRX] at HRg iO iO2 oO zO HC2
                    have hta : RX.toList.toArray = RX := Array.toArray_toList
                    have HZ := hid (heap_alloc_new wr (.cells #[.int .i64 0, .string ⟨#[]⟩] 69))
                    have hb5 := below_setRow (g := wr.heap.size) (below_alloc wr (.cells #[.int .i64 0, .string ⟨#[]⟩] 69)) (Nat.le_refl _) RX
                    have HB5 := hid (setRow_heap _ _ _ RX _ _ HZ.out)
                    have HD5 := hid (HD.out.call hb5)
                    have HObx : Hid (∀ j, j < n → ¬ Fq j wr.heap.size) := fun j hj c => by have := (HD.out.fz.nt.bus j hj).lt _ c; omega
                    clear hr r1 r2 hdp hSB hRX hxl hqL hb5 HD htk
                    go_upto_region 41 with (first | (refine wpList_load_mid rfl 69 _ rfl x (o + q * 2) rfl _ _ HRg.out Tryz.underlying69 rfl iO ?_; rw [hta]) | (refine wpList_store_row rfl 69 _ _ rfl wr.heap.size RX rfl rfl 69 _ HZ.out iO2 zO oO ?_))
                    clear HZ HRg iO iO2 oO zO hta
                    generalize (wr.alloc (.cells #[.int .i64 0, .string ⟨#[]⟩] 69)).setRow wr.heap.size RX = w5 at *
                    generalize wr.heap.size = ob at *
                    have HDd := hid (HD5.out.call (Below.refl _ _).drew)
                    have HTk5 := hid (HTk.out _ HDd.out)
                    have hs0 := HC2.out w5.drew ob HB5.out HDd.out.fz.row
                    refine wp_region_held_drew (S := fun W => W.cell? ⟨ob, 0, none⟩ = some (.int .i64 (d : Int)) ∧ W.cell? ⟨ob, 1, none⟩ = some (.string SB) ∧ W.cell? ⟨lb, d, none⟩ = some (.pointer (some ⟨bs d, 0, none⟩))) (by kernel_rfl) hs0 (fun hHeld => ?_)
                    clear hs0 HTk
                    refine wpAnyH_take (i := 0) (oi := { dst := some 170, op := Op.move (Operand.tmp 5), type := 64, pos := "law.go:252", after := #[], guard := none }) (v := .slice (some ⟨lb, 0, none⟩) n cl) rfl (by kernel_rfl) (by kernel_rfl) (by kernel_rfl) (fun _ _ _ h => h) (Or.inl ⟨by rfl, fun wS hSw => ?_⟩) (by assumption) ?_
                    · clear hHeld
                      clear hSw
                      go_simp
                    try simp only [Act.put, List.setIfInBounds_toArray, List.set_cons_zero, List.set_cons_succ]
                    refine wpAnyH_take (i := 1) (oi := { dst := some 171, op := Op.fieldAddr 69 (Operand.tmp 20) 0, type := 0, pos := "law.go:252", after := #[], guard := none }) (v := .pointer (some ⟨ob, 0, none⟩)) rfl (by kernel_rfl) (by kernel_rfl) (by kernel_rfl) (fun _ _ _ h => h) (Or.inl ⟨by rfl, fun wS hSw => ?_⟩) (by assumption) ?_
                    · clear hHeld
                      clear hSw
                      go_simp
                    try simp only [Act.put, List.setIfInBounds_toArray, List.set_cons_zero, List.set_cons_succ]
                    refine wpAnyH_take (i := 2) (oi := { dst := some 172, op := Op.load 3 (Operand.tmp 171), type := 3, pos := "law.go:252", after := #[{ on := 1, ground := Ground.data }], guard := none }) (v := .int .i64 (d : Int)) rfl (by kernel_rfl) (by kernel_rfl) (by kernel_rfl) (fun _ _ _ h => h) (Or.inl ⟨by rfl, fun wS hSw => ?_⟩) (by assumption) ?_
                    · clear hHeld
                      obtain ⟨s0, s1, s2⟩ := hSw
                      go_simp
                    try simp only [Act.put, List.setIfInBounds_toArray, List.set_cons_zero, List.set_cons_succ]
                    refine wpAnyH_take (i := 3) (oi := { dst := some 173, op := Op.indexAddr 64 (Operand.tmp 170) (Operand.tmp 172), type := 0, pos := "law.go:252", after := #[{ on := 0, ground := Ground.data }, { on := 2, ground := Ground.data }], guard := none }) (v := .pointer (some ⟨lb, d, none⟩)) rfl (by kernel_rfl) (by kernel_rfl) (by kernel_rfl) (fun _ _ _ h => h) (Or.inl ⟨by rfl, fun wS hSw => ?_⟩) (by assumption) ?_
                    · clear hHeld
                      clear hSw
                      go_simp
                    try simp only [Act.put, List.setIfInBounds_toArray, List.set_cons_zero, List.set_cons_succ]
                    refine wpAnyH_take (i := 4) (oi := { dst := some 174, op := Op.load 28 (Operand.tmp 173), type := 28, pos := "law.go:252", after := #[{ on := 3, ground := Ground.data }], guard := none }) (v := .pointer (some ⟨bs d, 0, none⟩)) rfl (by kernel_rfl) (by kernel_rfl) (by kernel_rfl) (fun _ _ _ h => h) (Or.inl ⟨by rfl, fun wS hSw => ?_⟩) (by assumption) ?_
                    · clear hHeld
                      obtain ⟨s0, s1, s2⟩ := hSw
                      go_simp
                    try simp only [Act.put, List.setIfInBounds_toArray, List.set_cons_zero, List.set_cons_succ]
                    refine wpAnyH_take (i := 5) (oi := { dst := some 175, op := Op.fieldAddr 69 (Operand.tmp 20) 1, type := 0, pos := "law.go:252", after := #[], guard := none }) (v := .pointer (some ⟨ob, 1, none⟩)) rfl (by kernel_rfl) (by kernel_rfl) (by kernel_rfl) (fun _ _ _ h => h) (Or.inl ⟨by rfl, fun wS hSw => ?_⟩) (by assumption) ?_
                    · clear hHeld
                      clear hSw
                      go_simp
                    try simp only [Act.put, List.setIfInBounds_toArray, List.set_cons_zero, List.set_cons_succ]
                    refine wpAnyH_take (i := 6) (oi := { dst := some 176, op := Op.load 9 (Operand.tmp 175), type := 9, pos := "law.go:252", after := #[{ on := 5, ground := Ground.data }], guard := none }) (v := .string SB) rfl (by kernel_rfl) (by kernel_rfl) (by kernel_rfl) (fun _ _ _ h => h) (Or.inl ⟨by rfl, fun wS hSw => ?_⟩) (by assumption) ?_
                    · clear hHeld
                      obtain ⟨s0, s1, s2⟩ := hSw
                      go_simp
                    try simp only [Act.put, List.setIfInBounds_toArray, List.set_cons_zero, List.set_cons_succ]
                    refine wpAnyH_ready (rs := [7]) (by kernel_rfl) (by simp) ?_
                    refine AllReadyH.cons (o := { dst := some 177, op := Op.call { callee := Callee.value (Operand.func 17), args := #[Operand.tmp 174, Operand.tmp 176], argTypes := #[28, 9] }, type := 4, pos := "law.go:252", after := #[{ on := 4, ground := Ground.data }, { on := 6, ground := Ground.data }], guard := none }) rfl (fun K hK => ?_) AllReadyH.nil
                    clear hHeld
                    go_simp
                    refine HTk5.out.mono ?_; rintro r w7 ⟨⟨x2, rfl⟩, hkp, F7, v7, o7, hD7⟩
                    have hob7 : w7.heap[ob]? = some (.cells RX 69 (0, 0)) := (hkp ob (Array.getElem?_eq_some_iff.1 HB5.out).1 HObx.out).trans HB5.out
                    have HD7 := hid hD7
                    have HS7 := hid (HC2.out w7 ob hob7 HD7.out.fz.row)
                    clear hD7 HTk5 hkp hob7
                    go_wp2_with fail
                    refine hK.out _ _ HS7.out (fun hHeld => ?_)
                    clear hK K
                    try simp only [Act.put, List.setIfInBounds_toArray, List.set_cons_zero, List.set_cons_succ]
                    refine wpAnyH_done (by kernel_rfl) ?_ _
                    clear hHeld
                    go_wp2_with fail
                    go_roundw
                    case rel => exact ⟨q + 1, by omega, by go_num, _, _, _, HD7.out⟩
                    case measure => simp [intOf]; omega
                  · obtain rfl : q = nr := by omega
                    have hD := HD.out
                    rw [← HNr.out] at hD
                    have HFn := hid (dz_end hD)
                    clear hD
                    go_wp2_with fail
                    go_roundw
                    case rel => exact ⟨t + 1, by omega, by go_num, _, _, _, HFn.out⟩
                    case measure => simp [intOf]; omega
              · obtain rfl : t = n := by omega
                have HFn := hid (HF.out.next.mono (show 6 * f + t ≤ 6 * (f + 1) by omega))
                go_wp2_with fail
                go_roundw
                case rel => exact ⟨f + 1, by omega, by go_num, _, _, _, HFn.out⟩
                case measure => simp [intOf]; omega
          · obtain rfl : f = n := by omega
            obtain ⟨Fs, vs, os, hF⟩ := HX.out
            have HF := hid hF
            clear HX hF
            go_wp2_with fail
            go_loopw [183] (fun i wr => ∃ j : Nat, j ≤ f ∧ i = .int .i64 (j : Int) ∧ Hid (Fz w wr NC C f lb bs vbs Fs vs os (6 * f) f 0)) (fun i _ => f - (intOf i).toNat)
            case atStart => exact ⟨0, Nat.zero_le _, rfl, HF.out⟩
            case round =>
              clear HF
              obtain ⟨j, hj, rfl, HF⟩ := hrel
              by_cases hlj : j < f
              · have hjz : (j : Int) < (f : Int) := by omega
                have cf := HF.out.row.get hlj
                have HNr := hid HF.out.net
                have HAg9 := hid (HAg.out (bs j) (vbs j) (Fs j) (vs j) (os j) true _ (HF.out.nt.bus j hlj) HF.out.nt.bel h6 (fun s hs => .inl (HF.out.sees (by omega) hlj s hs)))
                go_wp2_with (refine wpList_load_row rfl 63 _ rfl w.heap.size rfl 63 _ (0, 0) _ HNr.out Tryz.underlying63 rfl iN ?_)
                refine HAg9.out.mono ?_; rintro r w8 ⟨rfl, hb8⟩
                have HF8 := hid (HF.out.call hb8)
                clear hb8 HAg9
                go_wp2_with fail
                go_roundw
                case rel => exact ⟨j + 1, by omega, by go_num, HF8.out⟩
                case measure => simp [intOf]; omega
              · obtain rfl : j = f := by omega
                have HEr := hid (HE.out.below HF.out.nt.bel HE.out.room)
                go_wp2_with fail
                refine (HAl.out _ HEr.out).mono ?_; rintro r w8 ⟨rfl, hb8⟩
                have HW8 := hid (HF.out.nt.bel.trans (hb8.mono HF.out.nt.bel.size))
                clear hb8
                go_wp2_with fail
                go_ret
                exact ⟨rfl, HW8.out⟩
  · have HNo1 := hid (HNo.out w1 (by omega))
    have he : ∀ w : World, (binOp .eql 64 (.slice none 0 0) (.slice none 0 0)).run Tryz.prog w = .ok (.bool true) w := fun _ => rfl
    go_wp2_with (refine wpList_load_row rfl 63 _ rfl w.heap.size rfl 63 _ (0, 0) _ HN1.out Tryz.underlying63 rfl iN ?_)
    refine HNo1.out.mono ?_; rintro r w2 ⟨rfl, hb⟩
    have HW2 := hid (HW1.out.trans (hb.mono HW1.out.size))
    have HE2 := hid (HE.out.below HW2.out HE.out.room)
    clear hb
    go_wp2_with fail
    refine (HAl.out w2 HE2.out).mono ?_; rintro r w3 ⟨rfl, hb⟩
    have HW3 := hid (HW2.out.trans (hb.mono HW2.out.size))
    clear hb
    go_wp2_with fail
    go_ret
    exact ⟨rfl, HW3.out⟩

end Go.Proofs.YtbfllifgmlkndaaGreatDoor

namespace Go.Proofs.YtbfllifgmlkndaaGreatDoor.busMeets
open Go.ChangeShapes Go.WideShapes Go.ChangeAt Go.RowKit
open Go.ChangeMaps (open_string shut_string)
open Slot

theorem own : ownKnob Tryz.prog.godebug = none := by kernel_rfl
theorem laidOut : laidOutB Tryz.prog = true := by kernel_rfl
set_option maxHeartbeats 4000000 in
set_option maxRecDepth 100000 in
theorem contract (H : Type) (enc : TypeId × Value → H) (W : World) (base : Nat) (args : Array Value) (ds gs : List (DataW H)) (before : List MemPlace)
    (hval : ∀ (j : Nat) t v, Tryz.f5.params[j]? = some t → args[j]? = some v → Value.okWide Tryz.prog W .any base t v)
    (hW : DataW.Whole enc Tryz.prog Tryz.f5.params.toList Rows.busMeetsSpec.vars false W args.toList ds gs before) (hsz0 : (DataW.weightsEach Tryz.prog (Tryz.f5.params.toList ++ Rows.busMeetsSpec.plain.varTypes Tryz.prog) (ds ++ gs)).all (· ≤ reachBytes) = true) (hL : laidMetH Tryz.prog listed W) :
    Calls Tryz.prog 5 args W fun e W' => ∃ v, e = .returned v ∧ Rows.busMeetsSpec.post enc Tryz.prog Tryz.f5 false true false false W args v W' := by
  have hW' := hW
  obtain ⟨p, q, hA0, hV, rfl, hfz, hnd⟩ := hW
  have hA : DataW.TrodAll enc Tryz.prog W 0 (fun _ => true) true Tryz.f5.params.toList args.toList ds p := hA0
  have hsz : (DataW.weightsEach Tryz.prog (Tryz.f5.params.toList ++ Rows.busMeetsSpec.plain.varTypes Tryz.prog) (ds ++ gs)).all (· ≤ reachBytes) = true := hsz0
  clear hsz0
  rw [Tryz.params5] at hA hval hsz
  obtain ⟨v0, vs0, d0, ds0, p0, q0, hargs, rfl, rfl, h0, r0⟩ := trodAll_cons hA
  obtain ⟨v1, vs1, d1, ds1, p1, q1, rfl, rfl, rfl, h1, r1⟩ := trodAll_cons r0
  obtain ⟨rfl, rfl, rfl⟩ := trodAll_nil r1
  obtain rfl : args = #[v0, v1] := by cases args; simp_all
  obtain ⟨rfl, rfl⟩ := trodVars_none hV
  obtain ⟨cs0, rfl, hsz0, _⟩ : ∃ cs, v0 = .agg cs ∧ cs.size = Tryz.prog.cellsOf 63 ∧ Row.okWide Tryz.prog W .any base 63 cs := by
    have := hval 0 63 v0 rfl rfl
    simpa [Value.okWide, Tryz.underlying63] using this
  have k0 := h0
  have lt0 : ∀ x ∈ p0, x.block < W.heap.size := by obtain ⟨m, hm⟩ := k0; exact DataW.trod_lt m _ _ _ hm
  obtain ⟨fuel0, hf0⟩ := h0
  obtain ⟨a0, l0, len0, cap0, hq0, hl0, ho0, hm0⟩ := open_net hsz0 hf0
  obtain ⟨a1, len1, cap1, rfl⟩ := okWide_slice Tryz.underlying61 (hval 1 61 v1 rfl rfl)
  have k1 := h1
  have lt1 : ∀ x ∈ p1, x.block < W.heap.size := by obtain ⟨m, hm⟩ := k1; exact DataW.trod_lt m _ _ _ hm
  obtain ⟨l1, hl1, ho1, hm1⟩ : ∃ l : List Int, l.length = len1 ∧ IntsR W a1 l ∧ len1 ≤ 9223372036854775807 := by obtain ⟨m, hm⟩ := h1; exact open_ints hm
  clear hA0
  have HC := meets_any a0 l0 len0 cap0 a1 l1 len1 cap1 W (env_of hL) hl0 ho0 hm0 hl1 ho1 hm1
  rw [← hq0] at HC
  refine HC.mono fun e W' ⟨he, bel⟩ => ?_
  subst he
  exact ⟨_, rfl, _, _, _, [], _, [], hW', trodAll_mk1 (shut_bool Tryz.underlying4 _), (trodAll_cons_mk (Below.trod laidOut (by kernel_rfl) (of_decide_eq_true (by kernel_rfl)) k0 bel lt0) (trodAll_cons_mk (Below.trod laidOut (by kernel_rfl) (of_decide_eq_true (by kernel_rfl)) k1 bel lt1) trodAll_mk0)), rfl, bel.frame _, fun h => by cases h⟩
theorem reads (os : Os) {H : Type} (enc : TypeId × Value → H) : ∃ places, DataW.whole enc Tryz.prog ((laidWorld Tryz.prog os).forCall (fun _ _ => 0) ⟨#[], #[.agg #[.slice none 0 0], .slice none 0 0], []⟩).memory Tryz.f5.params.toList Rows.busMeetsSpec.vars false (#[.agg #[.slice none 0 0], .slice none 0 0] : Array Value).toList 8 = some ([.agg [.nil], .nil], [], places) :=
  ⟨[], by kernel_rfl⟩

set_option maxHeartbeats 4000000 in
set_option maxRecDepth 100000 in
theorem lifted (os : Os) (started : os.Started) (H : Type) (enc : TypeId × Value → H) (F : Stop.Interp) :
    ReturnsInHanded {} Tryz.checked os 5 .any ((OpenSpec.ofChange Rows.busMeetsSpec).preRow enc Tryz.prog Tryz.f5 Rows.busMeetsRow.domain false Rows.busMeetsRow.laid) (((OpenSpec.ofChange Rows.busMeetsSpec).at F).post enc Tryz.prog Tryz.f5 false true false false) := by
  obtain ⟨places, hx⟩ := reads os enc
  refine returnsInHanded_of_row (C := Tryz.checked) (s := OpenSpec.ofChange Rows.busMeetsSpec) own started (by kernel_rfl) Tryz.func5
    (witness_row_at (enc := enc) (C := Tryz.checked) false (laidWorld Tryz.prog os) #[.agg #[.slice none 0 0], .slice none 0 0] rfl (by kernel_rfl) (by kernel_rfl) (by kernel_rfl)
      (OpenSpec.preRow_of_cond 8 hx (by kernel_rfl) (fun k hk => by cases hk) (by kernel_rfl) (laid_met os _))) ?_
  intro W base args ds gs before hval hW _ hcond hsz hL _ _
  exact contract H enc W base args ds gs before hval hW hsz hL

theorem said : Rows.BusMeetsSaid :=
  OpenClaim.holds_of_cond 5 Tryz.f5 rfl rfl rfl rfl rfl rfl rfl ⟨rfl, rfl, rfl, rfl, rfl⟩ rfl rfl rfl rfl rfl (by kernel_rfl) Tryz.func5 (by kernel_rfl)
    (of_decide_eq_true (by kernel_rfl)) (by unfold Func.isWrapper; first | (rw [if_pos (by decide +kernel)]; kernel_rfl) | (rw [if_neg (by decide +kernel)]; exact ⟨rfl, rfl⟩))
    (fun os started H enc _ F => by rw [OpenClaim.pre_eq_preRow]; exact lifted os started H enc F)

theorem plain (f : FuncId) (fn : Func) (hf : Tryz.pinned.checked.prog.funcNamed "marshalyard/marshalyardlaw16.BusMeets" = some f) (hfn : Tryz.pinned.checked.prog.funcs[f]? = some fn) :
    true = Tryz.pinned.checked.prog.looks [] ∧ ∀ (j : Nat) t, fn.params[j]? = some t → Tryz.pinned.checked.prog.wantsStandIn t = false := by
  obtain rfl : f = 5 := Option.some.inj ((show Tryz.prog.funcNamed "marshalyard/marshalyardlaw16.BusMeets" = some 5 by kernel_rfl).symm.trans hf) |>.symm
  obtain rfl : fn = Tryz.f5 := (Option.some.inj (Tryz.func5.symm.trans hfn)).symm
  refine ⟨by kernel_rfl, fun j t ht => ?_⟩
  rw [Tryz.params5] at ht
  have hm : t = 63 ∨ t = 61 := by simpa using Array.mem_of_getElem? ht
  rcases hm with rfl | rfl
  · exact (show Tryz.prog.wantsStandIn 63 = false by kernel_rfl)
  · exact (show Tryz.prog.wantsStandIn 61 = false by kernel_rfl)

end Go.Proofs.YtbfllifgmlkndaaGreatDoor.busMeets
namespace Go.Proofs.YtbfllifgmlkndaaGreatDoor
open Go
/-- THE CARD -/
theorem busMeets_card : Rows.BusMeetsCardSaid :=
  Claim7.holds_tied_plain_at .later [] _ _ _ _ busMeets.said (fun _ h => by cases h) (by kernel_rfl) (fun _ h => by cases h) busMeets_row_tie rfl ⟨rfl, rfl⟩ (by kernel_rfl) rfl busMeets.plain (by kernel_rfl)
#print axioms busMeets_card
end Go.Proofs.YtbfllifgmlkndaaGreatDoor
