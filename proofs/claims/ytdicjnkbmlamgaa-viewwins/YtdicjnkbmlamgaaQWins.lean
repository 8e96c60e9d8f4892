/- Whatever the beginning, the script, the slot and the least epoch: a slot that is won is the node's own, at an epoch above all others (ViewWins, its first form; no condition). -/
import Derived.Test.YtdicjnkbmlamgaaM39
import Derived.Test.YtdicjnkbmlamgaaRows
import Derived.ProofKit
import Derived.OpenShut
import Derived.ShutString
import Derived.ChangeMaps5
import Derived.ChangeOld
import Derived.RowKit
import Derived.Deep.DeepHandedRow
import Derived.SizedLaws
import Derived.Test.YtdicjnkbmlamgaaM03
import Derived.Test.YtdicjnkbmlamgaaM38
namespace Go.Proofs.Ytdicjnkbmlamgaa
open Go.RowKit
open Slot

theorem winE_not {s : Int} {l : Nat} (h : winE s l ≠ 0) : winE s l = 1 ∧ (s < 0 ∨ 16384 ≤ s ∨ 4611686018427387904 < l) := by
  unfold winE slotB at *
  by_cases c : decide (0 ≤ s ∧ s < 16384) = true ∧ l ≤ big
  · rw [if_pos c] at h; exact absurd rfl h
  · rw [if_neg c]
    refine ⟨rfl, ?_⟩
    have hb : big = 4611686018427387904 := rfl
    by_cases c1 : 0 ≤ s ∧ s < 16384
    · have : ¬ l ≤ big := fun x => c ⟨decide_eq_true c1, x⟩
      omega
    · omega
set_option maxHeartbeats 8000000 in
set_option maxRecDepth 100000 in
theorem wins_any (self : Int) (S : Nat → Bool) (e : Nat) (a : Option Addr) (L : List OpV) (n c : Nat) (s : Int) (l : Nat) (w : World) (hn : L.length = n) (hL : OpR w a L) (hm : n ≤ 9223372036854775807) :
    Calls Try.prog 8 #[.agg (bgC self S e), .slice a n c, .agg #[.int .i64 s, .int .u64 (l : Int)]] w fun e w' => e = .returned (.bool true) ∧ Below w.heap.size w w' := by
  have b1 := below_alloc w (.cells (bgC self S e) 26)
  have b2 := below_alloc (w.alloc (.cells (bgC self S e) 26)) (.cells #[.int .i64 s, .int .u64 (l : Int)] 66)
  have e1 : (w.alloc (.cells (bgC self S e) 26)).heap.size = w.heap.size + 1 := by simp
  have HW1 : Hid (Below w.heap.size w ((w.alloc (.cells (bgC self S e) 26)).alloc (.cells #[.int .i64 s, .int .u64 (l : Int)] 66)).drew) := (b1.trans (b2.mono (by omega))).drew
  have HB1 : Hid (((w.alloc (.cells (bgC self S e) 26)).alloc (.cells #[.int .i64 s, .int .u64 (l : Int)] 66)).drew.heap[w.heap.size]? = some (.cells (bgC self S e) 26 (0, 0))) := heap_alloc2_old w _ _
  have HX1 : Hid (((w.alloc (.cells (bgC self S e) 26)).alloc (.cells #[.int .i64 s, .int .u64 (l : Int)] 66)).heap[w.heap.size + 1]? = some (.cells #[.int .i64 s, .int .u64 (l : Int)] 66 (0, 0))) := heap_alloc2_new w _ _
  have c0 := cell_of_row _ _ 0 _ _ _ HX1.out
  have c1 := cell_of_row _ _ 1 _ _ _ HX1.out
  have c0 : ((w.alloc (.cells (bgC self S e) 26)).alloc (.cells #[.int .i64 s, .int .u64 (l : Int)] 66)).cell? ⟨w.heap.size + 1, 0, none⟩ = some (.int .i64 s) := c0
  have c1 : ((w.alloc (.cells (bgC self S e) 26)).alloc (.cells #[.int .i64 s, .int .u64 (l : Int)] 66)).cell? ⟨w.heap.size + 1, 1, none⟩ = some (.int .u64 (l : Int)) := c1
  have iB := infoBg self S e
  have HBe := hid (begun_any self e n c S a L _ hn (hL.below HW1.out (Nat.le_refl _)) hm)
  have HAl := hid (fun W => alive_any W)
  obtain ⟨BC, hBC⟩ : ∃ C, bgC self S e = C := ⟨_, rfl⟩
  rw [hBC] at HW1 HB1 HBe iB c0 c1 ⊢
  clear hBC hn hL hm b1 b2 e1 HX1
  go_enter Try.func8, Try.ntmps8
  go_upto_region 1 with fail
  generalize hw1 : (w.alloc (.cells BC 26)).alloc (.cells #[.int .i64 s, .int .u64 (l : Int)] 66) = w0 at *
  clear hw1
  go_region
  generalize w0.drew = w1 at *
  clear c0 c1
  go_wp2_with (refine wpList_load_row rfl 26 _ rfl w.heap.size rfl 26 _ (0, 0) _ HB1.out Try.underlying26 rfl iB ?_)
  refine HBe.out.mono ?_; rintro r w2 ⟨x, RC, rfl, hs, ho, hb, hx⟩
  have HW2 := hid (HW1.out.trans (hb.mono HW1.out.size))
  obtain ⟨b3, h3, hz, iR, hb3⟩ := put_row HW2.out hs
  have HW3 := hid b3
  have HB3 := hid hb3
  have HX := hid hx
  have HO := hid ho
  have HZ := hid (heap_alloc_new w2 (.cells #[.int .i64 0, .slice none 0 0, .int .u64 0] 31))
  clear hb b3 h3 hb3 hx ho hs HBe HB1
  go_upto_region 3 with (refine wpList_store_row rfl 31 _ _ rfl w2.heap.size RC rfl rfl 31 _ HZ.out iR hz HO.out ?_)
  clear HZ
  generalize (w2.alloc (.cells #[.int .i64 0, .slice none 0 0, .int .u64 0] 31)).setRow w2.heap.size RC = w3 at *
  rcases HX.out with rfl | ⟨b, v, g, cap, rfl, -, hV, -, hOk, hbw⟩
  · go_wp2_with fail
    refine (HAl.out _).mono ?_; rintro r w4 ⟨rfl, hb4⟩
    have HW4 := hid (HW3.out.trans (hb4.mono HW3.out.size))
    clear hb4
    go_wp2_with fail
    go_ret
    exact ⟨rfl, HW4.out⟩
  · have HWn := hid (win_any b v s l w3 (hV.below HB3.out hV.lt) hOk.self (by have := hOk.cur; have hb : big = 4611686018427387904 := rfl; omega))
    have HOk := hid hOk
    have HBw : Hid (w.heap.size ≤ b) := by have := HW1.out.size; show _ ≤ _; omega
    clear hV hOk hbw HX
    go_wp2_with fail
    refine HWn.out.mono ?_; rintro r w4 ⟨rfl, hv, hon⟩
    have HV4 := hid hv
    have HW4 := hid (HW3.out.trans (hon.below HBw.out HW3.out.size))
    clear hv hon HWn
    by_cases hE : winE s l = 0
    · have HWw := hid (win_wins (s := s.toNat) (least := l) HOk.out)
      have hsl : slotB s = true := by
        cases h : slotB s
        · rw [winE_out l h] at hE; cases hE
        · rfl
      have hsb := of_decide_eq_true hsl
      rw [hE] at HV4 ⊢
      rw [if_pos rfl] at HV4
      obtain ⟨k0, rfl⟩ := Int.eq_ofNat_of_zero_le hsb.1
      rw [Int.toNat_natCast] at HV4 HWw
      obtain ⟨u, hu⟩ : ∃ u, winV v k0 l = u := ⟨_, rfl⟩
      have hus : u.self = v.self := by rw [← hu]; exact HWw.out.2.2.2.2
      rw [hu] at HV4 HWw
      obtain ⟨me, hme⟩ : ∃ m, v.self = m := ⟨_, rfl⟩
      rw [hme] at hus HWw
      have hml : me < 64 := by rw [← hme]; exact HOk.out.self
      have HSt : Hid (∀ W, VB W b u → Calls Try.prog 26 #[.pointer (some ⟨b, 0, none⟩)] W fun e w' => e = .returned (.int .i64 (me : Int)) ∧ w' = W) := fun W h => by
        have := self_any b u W h
        rwa [hus] at this
      have hown : u.own k0 = me := HWw.out.2.1
      have HOt : Hid (∀ W, VB W b u → Calls Try.prog 12 #[.pointer (some ⟨b, 0, none⟩), .int .i64 (k0 : Int)] W fun e w' => e = .returned (.int .i64 (me : Int)) ∧ w' = W) := fun W h => by
        have := owner_any b u (k0 : Int) W h
        rwa [ownI_in u (by omega), hown, show ownZ me = (me : Int) by unfold ownZ; rw [if_pos hml]] at this
      have HEt : Hid (∀ W, VB W b u → Calls Try.prog 18 #[.pointer (some ⟨b, 0, none⟩), .int .i64 (me : Int)] W fun e w' => e = .returned (.int .u64 (u.ep me : Int)) ∧ w' = W) := fun W h => by
        have := epoch_any b u (me : Int) W h
        rwa [epI_in u hml] at this
      have HCt := hid (fun W (h : VB W b u) => current_any b u W h)
      obtain ⟨x, hx⟩ : ∃ x, u.ep me = x := ⟨_, rfl⟩
      have hcx : u.cur = x := by rw [← hx]; exact HWw.out.2.2.2.1.symm
      have hlx : (l : Int) < (x : Int) := by have := HWw.out.2.2.1; rw [hx] at this; omega
      rw [hcx] at HCt
      rw [hx] at HEt
      have HSf := hid (HSt.out w4 HV4.out)
      have HEm := hid (HEt.out w4 HV4.out)
      have HEk : Hid (∀ k : Nat, k < 64 → k ≠ me → ∃ y : Nat, y < x ∧ Calls Try.prog 18 #[.pointer (some ⟨b, 0, none⟩), .int .i64 (k : Int)] w4 fun e w' => e = .returned (.int .u64 (y : Int)) ∧ w' = w4) := fun k h1 h2 => by
        refine ⟨u.ep k, by rw [← hx]; exact HWw.out.1 k h2, ?_⟩
        have := epoch_any b u (k : Int) w4 HV4.out
        rwa [epI_in u h1] at this
      have hmz : (me : Int) < 64 := by omega
      clear hE hsl hsb hu hus hme hml hown hx hcx HWw HOk
      go_wp2_with fail
      go_loopw [54] (fun c wr => ∃ k : Nat, c = .int .i64 (k : Int) ∧ k ≤ 64 ∧ wr = w4) (fun i _ => 64 - (intOf i).toNat)
      case atStart => exact ⟨0, rfl, Nat.zero_le _, rfl⟩
      case round =>
        obtain ⟨k, rfl, hk, hwr⟩ := hrel
        subst hwr
        by_cases hlt : k < 64
        · have hkz : (k : Int) < 64 := by omega
          by_cases hkm : k = me
          · subst hkm
            go_wp2_with fail
            refine HSf.out.mono ?_; rintro r w5 ⟨rfl, rfl⟩
            go_wp2_with fail
            go_roundw
            case rel => exact ⟨k + 1, by go_num, by omega, by first | rfl | trivial⟩
            case measure => simp [intOf]; omega
          · obtain ⟨y, hy, hcy⟩ := HEk.out k hlt hkm
            have HCy := hid hcy
            have hyz : (y : Int) < (x : Int) := by omega
            have hkm2 : ((k : Int) != (me : Int)) = true := by rw [bne_iff_ne]; omega
            have hkm3 : ¬ (k : Int) = (me : Int) := by omega
            clear hcy hkm
            go_wp2_with fail
            refine HSf.out.mono ?_; rintro r w5 ⟨rfl, rfl⟩
            go_wp2_with fail
            refine HCy.out.mono ?_; rintro r w5 ⟨rfl, rfl⟩
            go_wp2_with fail
            refine HSf.out.mono ?_; rintro r w5 ⟨rfl, rfl⟩
            go_wp2_with fail
            refine HEm.out.mono ?_; rintro r w5 ⟨rfl, rfl⟩
            go_wp2_with fail
            go_roundw
            case rel => exact ⟨k + 1, by go_num, by omega, by first | rfl | trivial⟩
            case measure => simp [intOf]; omega
        · obtain rfl : k = 64 := by omega
          have HAl4 := hid (HAl.out wr)
          clear HEk
          go_wp2_with fail
          refine HAl4.out.mono ?_; rintro r w5 ⟨rfl, hb5⟩
          have HV5 := hid (HV4.out.below hb5 HV4.out.lt)
          have HW5 := hid (HW4.out.trans (hb5.mono HW4.out.size))
          have HO5 := hid (HOt.out w5 HV5.out)
          have HS5 := hid (HSt.out w5 HV5.out)
          have HE5 := hid (HEt.out w5 HV5.out)
          have HC5 := hid (HCt.out w5 HV5.out)
          clear hb5 HSf HEm
          go_wp2_with fail
          refine HO5.out.mono ?_; rintro r w6 ⟨rfl, rfl⟩
          go_wp2_with fail
          refine HS5.out.mono ?_; rintro r w6 ⟨rfl, rfl⟩
          go_wp2_with fail
          refine HS5.out.mono ?_; rintro r w6 ⟨rfl, rfl⟩
          go_wp2_with fail
          refine HE5.out.mono ?_; rintro r w6 ⟨rfl, rfl⟩
          go_wp2_with fail
          refine HS5.out.mono ?_; rintro r w6 ⟨rfl, rfl⟩
          go_wp2_with fail
          refine HE5.out.mono ?_; rintro r w6 ⟨rfl, rfl⟩
          go_wp2_with fail
          refine HC5.out.mono ?_; rintro r w6 ⟨rfl, rfl⟩
          go_wp2_with fail
          go_ret
          exact ⟨rfl, HW5.out⟩
    · obtain ⟨hE1, hE2⟩ := winE_not hE
      rw [hE1]
      have HE2 := hid hE2
      clear hE hE1 hE2 HV4
      rcases HE2.out with h | h | h
      all_goals
        first
          | (have h2 : (4611686018427387904 : Int) < (l : Int) := by omega)
          | skip
        by_cases d0 : s < 0
        · go_wp2_with fail
          refine (HAl.out _).mono ?_; rintro r w5 ⟨rfl, hb5⟩
          have HW5 := hid (HW4.out.trans (hb5.mono HW4.out.size))
          clear hb5
          go_wp2_with fail
          go_ret
          exact ⟨rfl, HW5.out⟩
        · by_cases d1 : 16384 ≤ s
          · go_wp2_with fail
            refine (HAl.out _).mono ?_; rintro r w5 ⟨rfl, hb5⟩
            have HW5 := hid (HW4.out.trans (hb5.mono HW4.out.size))
            clear hb5
            go_wp2_with fail
            go_ret
            exact ⟨rfl, HW5.out⟩
          · have d2 : (4611686018427387904 : Int) < (l : Int) := by omega
            go_wp2_with fail
            refine (HAl.out _).mono ?_; rintro r w5 ⟨rfl, hb5⟩
            have HW5 := hid (HW4.out.trans (hb5.mono HW4.out.size))
            clear hb5
            go_wp2_with fail
            go_ret
            exact ⟨rfl, HW5.out⟩

end Go.Proofs.Ytdicjnkbmlamgaa

namespace Go.Proofs.Ytdicjnkbmlamgaa.viewWins
open Go.ChangeShapes Go.WideShapes Go.ChangeAt Go.RowKit
open Go.ChangeMaps (open_string shut_string)


theorem own : ownKnob Try.prog.godebug = none := by kernel_rfl
theorem laidOut : laidOutB Try.prog = true := by kernel_rfl
set_option maxRecDepth 100000 in
theorem contract (H : Type) (enc : TypeId × Value → H) (W : World) (base : Nat) (args : Array Value) (ds gs : List (DataW H)) (before : List MemPlace)
    (hval : ∀ (j : Nat) t v, Try.f8.params[j]? = some t → args[j]? = some v → Value.okWide Try.prog W .any base t v)
    (hW : DataW.Whole enc Try.prog Try.f8.params.toList Rows.viewWinsSpec.vars false W args.toList ds gs before) (hsz0 : (DataW.weightsEach Try.prog (Try.f8.params.toList ++ Rows.viewWinsSpec.plain.varTypes Try.prog) (ds ++ gs)).all (· ≤ reachBytes) = true) (_hL : laidMetH Try.prog listed W) :
    Calls Try.prog 8 args W fun e W' => ∃ v, e = .returned v ∧ Rows.viewWinsSpec.post enc Try.prog Try.f8 false true false false W args v W' := by
  have hW' := hW
  obtain ⟨p, q, hA0, hV, rfl, hfz, hnd⟩ := hW
  have hA : DataW.TrodAll enc Try.prog W 0 (fun _ => true) true Try.f8.params.toList args.toList ds p := hA0
  have hsz : (DataW.weightsEach Try.prog (Try.f8.params.toList ++ Rows.viewWinsSpec.plain.varTypes Try.prog) (ds ++ gs)).all (· ≤ reachBytes) = true := hsz0
  clear hsz0
  rw [Try.params8] at hA hval hsz
  obtain ⟨v0, vs0, d0, ds0, p0, q0, hargs, rfl, rfl, h0, r0⟩ := trodAll_cons hA
  obtain ⟨v1, vs1, d1, ds1, p1, q1, rfl, rfl, rfl, h1, r1⟩ := trodAll_cons r0
  obtain ⟨v2, vs2, d2, ds2, p2, q2, rfl, rfl, rfl, h2, r2⟩ := trodAll_cons r1
  obtain ⟨rfl, rfl, rfl⟩ := trodAll_nil r2
  obtain rfl : args = #[v0, v1, v2] := by cases args; simp_all
  obtain ⟨rfl, rfl⟩ := trodVars_none hV
  obtain ⟨cs0, rfl, hsz0, _⟩ : ∃ cs, v0 = .agg cs ∧ cs.size = Try.prog.cellsOf 26 ∧ Row.okWide Try.prog W .any base 26 cs := by
    have := hval 0 26 v0 rfl rfl
    simpa [Value.okWide, Try.underlying26] using this
  have k0 := h0
  have lt0 : ∀ x ∈ p0, x.block < W.heap.size := by obtain ⟨m, hm⟩ := k0; exact DataW.trod_lt m _ _ _ hm
  obtain ⟨fuel0, hf0⟩ := h0
  obtain ⟨se0, S0, ep0, hq0, _⟩ := open_bg hsz0 hf0
  obtain ⟨a1, len1, cap1, rfl⟩ := okWide_slice Try.underlying27 (hval 1 27 v1 rfl rfl)
  have k1 := h1
  have lt1 : ∀ x ∈ p1, x.block < W.heap.size := by obtain ⟨m, hm⟩ := k1; exact DataW.trod_lt m _ _ _ hm
  obtain ⟨l1, hl1, ho1, hn1⟩ : ∃ l : List OpV, l.length = len1 ∧ OpR W a1 l ∧ len1 ≤ 9223372036854775807 := by obtain ⟨m, hm⟩ := h1; exact open_vops hm
  obtain ⟨cs2, rfl, hsz2, _⟩ : ∃ cs, v2 = .agg cs ∧ cs.size = Try.prog.cellsOf 66 ∧ Row.okWide Try.prog W .any base 66 cs := by
    have := hval 2 66 v2 rfl rfl
    simpa [Value.okWide, Try.underlying66] using this
  have k2 := h2
  have lt2 : ∀ x ∈ p2, x.block < W.heap.size := by obtain ⟨m, hm⟩ := k2; exact DataW.trod_lt m _ _ _ hm
  obtain ⟨fuel2, hf2⟩ := h2
  obtain ⟨s2, l2, hq2, _⟩ := open_win hsz2 hf2
  clear hA0
  have HC := wins_any se0 S0 ep0 a1 l1 len1 cap1 s2 l2 W hl1 ho1 hn1
  rw [← hq0, ← hq2] at HC
  refine HC.mono fun e W' ⟨he, bel⟩ => ?_
  subst he
  exact ⟨_, rfl, _, _, _, [], _, [], hW', trodAll_mk1 (shut_bool Try.underlying4 _), (trodAll_cons_mk (Below.trod laidOut (by kernel_rfl) (of_decide_eq_true (by kernel_rfl)) k0 bel lt0) (trodAll_cons_mk (Below.trod laidOut (by kernel_rfl) (of_decide_eq_true (by kernel_rfl)) k1 bel lt1) (trodAll_cons_mk (Below.trod laidOut (by kernel_rfl) (of_decide_eq_true (by kernel_rfl)) k2 bel lt2) trodAll_mk0))), rfl, bel.frame _, fun h => by cases h⟩
theorem reads (os : Os) {H : Type} (enc : TypeId × Value → H) : ∃ places, DataW.whole enc Try.prog ((laidWorld Try.prog os).forCall (fun _ _ => 0) ⟨#[], #[.agg zeroBg, .slice none 0 0, .agg #[.int .i64 0, .int .u64 0]], []⟩).memory Try.f8.params.toList Rows.viewWinsSpec.vars false (#[.agg zeroBg, .slice none 0 0, .agg #[.int .i64 0, .int .u64 0]] : Array Value).toList 8 = some ([zeroBgD, .nil, .agg [.lit (.int .i64 0), .lit (.int .u64 0)]], [], places) :=
  ⟨[], by kernel_rfl⟩

set_option maxRecDepth 100000 in
theorem lifted (os : Os) (started : os.Started) (H : Type) (enc : TypeId × Value → H) (F : Stop.Interp) :
    ReturnsInHanded {} Try.checked os 8 .any ((OpenSpec.ofChange Rows.viewWinsSpec).preRow enc Try.prog Try.f8 Rows.viewWinsRow.domain false Rows.viewWinsRow.laid) (((OpenSpec.ofChange Rows.viewWinsSpec).at F).post enc Try.prog Try.f8 false true false false) := by
  obtain ⟨places, hx⟩ := reads os enc
  refine returnsInHanded_of_row (C := Try.checked) (s := OpenSpec.ofChange Rows.viewWinsSpec) own started (by kernel_rfl) Try.func8
    (witness_row_at (enc := enc) (C := Try.checked) false (laidWorld Try.prog os) #[.agg zeroBg, .slice none 0 0, .agg #[.int .i64 0, .int .u64 0]] rfl (by kernel_rfl) (by kernel_rfl) (by kernel_rfl)
      (OpenSpec.preRow_of_cond 8 hx (by kernel_rfl) (fun k hk => by cases hk) (by kernel_rfl) (laid_met os _))) ?_
  intro W base args ds gs before hval hW _ hcond hsz hL _ _
  exact contract H enc W base args ds gs before hval hW hsz hL

theorem said : Rows.ViewWinsSaid :=
  OpenClaim.holds_of_cond 8 Try.f8 rfl rfl rfl rfl rfl rfl rfl ⟨rfl, rfl, rfl, rfl, rfl⟩ rfl rfl rfl rfl rfl (by kernel_rfl) Try.func8 (by kernel_rfl)
    (of_decide_eq_true (by kernel_rfl)) (by unfold Func.isWrapper; first | (rw [if_pos (by decide +kernel)]; kernel_rfl) | (rw [if_neg (by decide +kernel)]; exact ⟨rfl, rfl⟩))
    (fun os started H enc _ F => by rw [OpenClaim.pre_eq_preRow]; exact lifted os started H enc F)


end Go.Proofs.Ytdicjnkbmlamgaa.viewWins
namespace Go.Proofs.Ytdicjnkbmlamgaa
open Go
/-- THE STATEMENT -/
theorem viewWins_holds : Rows.ViewWinsSaid := viewWins.said
#print axioms viewWins_holds
end Go.Proofs.Ytdicjnkbmlamgaa
