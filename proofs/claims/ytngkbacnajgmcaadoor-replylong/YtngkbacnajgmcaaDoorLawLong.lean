/- The walk of the law ReplyLong. -/
import Derived.Test.YtngkbacnajgmcaaDoorAlive
import Derived.Test.YtngkbacnajgmcaaDoorYes
namespace Go.Proofs.YtngkbacnajgmcaaDoor
open Go.RowKit

/-- a number as a reply -/
def wholeR (x : Int) : Rep := .mk 3 x [] []
def longR (n : Nat) (x : Int) : Rep := .mk 6 0 [] (List.replicate n (wholeR x))
theorem whole_rp {P : Nat → Prop} {w : World} {x : Int} (h0 : -9223372036854775808 ≤ x) (h1 : x ≤ 9223372036854775807) : Rp P w 1 (.agg #[.int .i64 (wholeR x).kind, .int .i64 (wholeR x).int, .string ⟨(wholeR x).text.toArray⟩, .slice none (wholeR x).list.length 0]) (wholeR x) :=
  ⟨none, 0, rfl, ⟨by simp [wholeR, Rep.kind], by simp [wholeR, Rep.kind], h0, h1, by simp [wholeR, Rep.text], by simp [wholeR, Rep.list]⟩, RowOf.nil _ _ _ _⟩
theorem long_cost (n : Nat) (x : Int) (h : n ≤ 1100) : cost 4 (longR n x) ≤ 1000000000 := by
  have : cost 4 (longR n x) = 100 + n * 100 := by
    unfold longR cost
    simp only [Rep.text, Rep.list, List.map_replicate, List.sum_replicate_nat, List.length_nil]
    simp [wholeR, cost, Rep.text, Rep.list]
  omega
theorem all_whole (k : Nat) (x : Int) : ∀ n, (encAll (enc k) (List.replicate n (wholeR x))).isSome = true
  | 0 => rfl
  | n + 1 => by
    have hr : right k (wholeR x) = true := by unfold wholeR; rw [right_mk]; simp
    rw [List.replicate_succ, encAll_cons (enc_flat hr (by simp [wholeR, Rep.kind])), Option.isSome_map]
    exact all_whole k x n
theorem long_some (n : Nat) (x : Int) (h : n ≤ 1024) : ∃ y, enc 4 (longR n x) = some y := by
  have hr : right 4 (longR n x) = true := by unfold longR; rw [right_mk]; simp [h]
  rw [enc_many hr rfl]
  obtain ⟨y, hy⟩ := Option.isSome_iff_exists.1 (all_whole 3 x n)
  exact ⟨_, by rw [show (longR n x).list = List.replicate n (wholeR x) from rfl, hy]; rfl⟩
theorem long_none (n : Nat) (x : Int) (h : ¬ n ≤ 1024) : enc 4 (longR n x) = none := by
  have hr : right 4 (longR n x) = false := by unfold longR; rw [right_mk]; simp; omega
  exact enc_none hr
theorem rd_nil (k : Nat) : rd k [] = .bad 40 := by cases k <;> rfl
set_option maxHeartbeats 4000000 in
set_option maxRecDepth 100000 in
theorem replyLong_walk (n x : Int) (w : World) (hE : Env w) (_hn0 : -9223372036854775808 ≤ n) (_hn1 : n ≤ 9223372036854775807) (hx0 : -9223372036854775808 ≤ x) (hx1 : x ≤ 9223372036854775807) :
    Calls Tryd.prog 4 #[.int .i64 n, .int .i64 x] w fun e w' => e = .returned (.bool true) ∧ Below w.heap.size w w' := by
  have HEnv := hid fun (W : World) (hb : Below w.heap.size w W) => hE.below hb hE.room
  have HAl := hid fun (W : World) (hb : Below w.heap.size w W) => alive_any W (HEnv.out W hb)
  have HZ := hid fun (o : Obj) => heap_alloc_new w o
  clear hE
  by_cases hout : n < 0
  · go_enter Tryd.func4, Tryd.ntmps4
    go_wp2_with fail
    refine (HAl.out _ (Below.refl _ _)).mono ?_; rintro e w4 ⟨rfl, hb⟩
    go_wp2_with fail
    go_ret
    exact ⟨rfl, hb.out⟩
  by_cases hout2 : 1100 < n
  · go_enter Tryd.func4, Tryd.ntmps4
    go_wp2_with fail
    refine (HAl.out _ (Below.refl _ _)).mono ?_; rintro e w4 ⟨rfl, hb⟩
    go_wp2_with fail
    go_ret
    exact ⟨rfl, hb.out⟩
  obtain ⟨N, rfl⟩ := Int.eq_ofNat_of_zero_le (show 0 ≤ n by omega)
  have hN : N ≤ 1100 := by omega
  go_enter Tryd.func4, Tryd.ntmps4
  go_wp2_with fail
  go_loopw [20] (fun v20 W => ∃ (i : Nat) (p : Option Addr) (m c : Nat), v20 = .int .i64 i ∧ i ≤ N ∧ Hid (W.heap[w.heap.size]? = some (.cells #[.int .i64 6, .int .i64 0, .string ⟨#[]⟩, .slice p m c] 24 (0, 0))) ∧ Hid (Rws (w.heap.size + 1) W 1 (.slice p m c) (List.replicate i (wholeR x))) ∧ Hid (Below w.heap.size w W)) (fun v20 _ => N - (intOf v20).toNat)
  case atStart => exact ⟨0, none, 0, 0, rfl, Nat.zero_le _, HZ.out _, Rws.nil _ _ _, below_alloc w _⟩
  case round =>
    obtain ⟨i, p, m, c, rfl, hi, HR, HW, HB⟩ := hrel
    have hwlt : w.heap.size < wr.heap.size := (Array.getElem?_eq_some_iff.1 HR.out).1
    by_cases hlt : i < N
    · have hlz : (i : Int) < (N : Int) := by omega
      obtain ⟨v', W4, hrun, hw4, hb4⟩ := HW.out.push (r := wholeR x) (q := none) (c := 0) (by omega) (by simp; omega) (whole_rp hx0 hx1)
      obtain ⟨p4, c4, rfl⟩ := hw4.shape
      have hln : (List.replicate i (wholeR x) ++ [wholeR x]).length = i + 1 := by simp
      have hrp : List.replicate i (wholeR x) ++ [wholeR x] = List.replicate (i + 1) (wholeR x) := by rw [List.replicate_succ']
      rw [hln] at hrun hw4
      rw [hrp] at hw4
      have HRun := hid hrun
      have HW4 := hid hw4
      have HB4 := hid hb4
      have hr4 := (hb4.block w.heap.size (by omega)).trans HR.out
      have HR4 := hid hr4
      obtain ⟨⟨c0, c1, c2, c3⟩, f0, f1, f2, f3⟩ := row_facts HR.out
      obtain ⟨⟨d0, d1, d2, d3⟩, g0, g1, g2, g3⟩ := row_facts hr4
      clear hrun hw4 hb4 hr4 hln hrp
      go_wp2_with (at_builtin; refine wpList_append_runs rfl _ _ 22 22 rfl _ _ _ _ rfl rfl HRun.out ?_)
      refine ⟨⟨i + 1, p4, i + 1, c4, by go_num, by omega, ?_, ?_, ?_⟩, by simp [intOf]; omega⟩
      · exact heap_setCell_same W4 w.heap.size 3 _ _ _ HR4.out
      · exact HW4.out.keep (fun b hb _ => heap_setCell_other _ _ _ _ (by simp; omega))
      · exact ((HB.out.trans (HB4.out.mono (by omega))).setCell (by simp) _)
    · obtain rfl : i = N := by omega
      obtain ⟨hm, hrow⟩ := HW.out.row
      rw [List.length_replicate] at hm
      subst hm
      have hrp : Rp All wr 2 (.agg #[.int .i64 6, .int .i64 0, .string ⟨#[]⟩, .slice p m c]) (longR m x) :=
        ⟨p, c, by simp [longR, Rep.kind, Rep.int, Rep.text, Rep.list], ⟨by simp [longR, Rep.kind], by simp [longR, Rep.kind], by simp [longR, Rep.int], by simp [longR, Rep.int], by simp [longR, Rep.text], by simp [longR, Rep.list]; omega⟩, hrow.turn (fun _ _ _ => ⟨trivial, rfl⟩) (Nat.le_refl _)⟩
      have HP := hid fun (W : World) (hb : Below wr.heap.size wr W) => hrp.below hb (Nat.le_refl _)
      have HF := hid (hrp.fits 4)
      have HE3 := hid (encode_any _ _ _ wr (HEnv.out _ HB.out) hrp (Nat.le_trans (long_cost m x hN) (by decide)))
      obtain ⟨⟨e0, e1, e2, e3⟩, -⟩ := row_facts HR.out
      clear hrow hrp
      by_cases h1024 : m ≤ 1024
      · obtain ⟨y, hy⟩ := long_some m x h1024
        rw [encOut_some hy] at HE3
        have HRd : Hid (rd 4 y = .got (longR m x) []) := by
          have := rd_back [] HF.out hy
          rwa [List.append_nil] at this
        have HYL := hid (Nat.le_trans (enc_len HF.out hy) (long_cost m x hN))
        have hle : ((m : Int) ≤ 1024) := by omega
        clear hy
        go_wp2_with fail
        refine HE3.out.mono ?_; rintro e w4 ⟨rfl, hb4⟩
        have HB4 := hid (HB.out.trans (hb4.out.mono HB.out.size))
        have HD := hid (decode_any y w4 (HEnv.out _ HB4.out) (by have := HYL.out; omega))
        rw [HRd.out] at HD
        have HR4 := hid ((hb4.out.block _ hwlt).trans HR.out)
        have HB4r := hid hb4.out
        clear hb4 HE3 e0 e1 e2 e3
        go_wp2_with fail
        refine HD.out.mono ?_; rintro e w5 ⟨a0, a1, a2, p5, m5, c5, n5, x5, rfl, hh⟩
        obtain ⟨rfl, hn, hrp⟩ := hh.out.1
        have hn5 : n5 = (y.length : Int) := by rw [hn]; simp
        clear hn
        subst hn5
        have HB5 := hid (HB4.out.trans (hh.out.2.mono HB4.out.size))
        have HB5r := hid (HB4r.out.trans (hh.out.2.mono HB4r.out.size))
        have HR5 := hid ((hh.out.2.block _ (Array.getElem?_eq_some_iff.1 HR4.out).1).trans HR4.out)
        have HQ := hid fun (W : World) (hb : Below w5.heap.size w5 W) => (hrp.all (Nat.le_refl _)).below hb (Nat.le_refl _)
        have HZ5 := hid fun (o : Obj) => heap_alloc_new w5 o
        have hlt5 : w.heap.size < w5.heap.size := (Array.getElem?_eq_some_iff.1 HR5.out).1
        clear hh HD hrp
        go_wp2_with fail
        refine (HAl.out _ (HB5.out.alloc HB5.out.size _)).mono ?_; rintro e w6 ⟨rfl, hb6⟩
        have HB56 := hid ((below_alloc w5 _).trans (hb6.out.mono (by simp)))
        have HR6 := hid ((HB56.out.block _ hlt5).trans HR5.out)
        have HN6 := hid ((hb6.out.block _ (by simp)).trans (HZ5.out _))
        clear hb6
        obtain ⟨⟨e0, e1, e2, e3⟩, -⟩ := row_facts HR6.out
        obtain ⟨⟨i0, i1, i2, i3⟩, -⟩ := row_facts HN6.out
        have HB6 := hid (HB5.out.trans (HB56.out.mono HB5.out.size))
        have HY := hid (same_yes (HQ.out w6 HB56.out) (HP.out w6 (HB5r.out.trans (HB56.out.mono HB5r.out.size))))
        go_wp2_with fail
        refine HY.out.mono ?_; rintro e w7 ⟨rfl, hb7⟩
        have HB7 := hid (HB6.out.trans (hb7.mono HB6.out.size))
        clear hb7
        go_wp2_with fail
        go_ret
        exact ⟨rfl, HB7.out⟩
      · rw [encOut_none (long_none m x h1024)] at HE3
        have hle : ¬ ((m : Int) ≤ 1024) := by omega
        have hdec : decide ((m : Int) ≤ 1024) = false := decide_eq_false hle
        go_wp2_with fail
        refine HE3.out.mono ?_; rintro e w4 ⟨rfl, hb4⟩
        have HB4 := hid (HB.out.trans (hb4.out.mono HB.out.size))
        have HD := hid (decode_any [] w4 (HEnv.out _ HB4.out) (by decide))
        clear hb4 HE3
        go_wp2_with fail
        refine HD.out.mono ?_; rintro e w5 ⟨a0, a1, a2, p5, m5, c5, n5, x5, rfl, hh⟩
        have HB5 := hid (HB4.out.trans (hh.out.2.mono HB4.out.size))
        clear hh HD
        go_wp2_with fail
        refine (HAl.out _ (HB5.out.alloc HB5.out.size _)).mono ?_; rintro e w6 ⟨rfl, hb6⟩
        have HB6 := hid ((HB5.out.alloc HB5.out.size _).trans (hb6.out.mono (by have := HB5.out.size; simp; omega)))
        clear hb6
        go_wp2_with fail
        go_ret
        exact ⟨rfl, HB6.out⟩

end Go.Proofs.YtngkbacnajgmcaaDoor
