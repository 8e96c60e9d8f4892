/- Next, from the label command on. -/
import Derived.Test.YtjcegiponjpjiabDoorNext2
namespace Go.Proofs.YtjcegiponjpjiabDoor
open Go.RowKit

theorem line_last {r : List UInt8} {k : Nat} (h : lineAt r = some k) : k < r.length ∧ k < 512 ∧ Lib.hasSuffix (r.take (k + 1)) [10] = true := by
  rcases lineAt_cases r with ⟨h', _⟩ | ⟨m, h', h5, h6, h7⟩
  · rw [h'] at h; cases h
  · rw [h'] at h
    injection h with h
    subst h
    refine ⟨h6, h7, suffix_one.2 ⟨fun e => ?_, ?_⟩⟩
    · have : (r.take (m + 1)).length = 0 := by rw [e]; rfl
      simp at this
      rw [this] at h6
      simp at h6
    · have := (Lib.indexByte_some h5).1
      rw [List.getElem?_take, if_pos h7] at this
      rw [List.length_take, Nat.min_eq_left (by omega), List.getElem?_take, if_pos (by omega)]
      exact this
theorem one_none {r : List UInt8} (h : lineAt r = none) : one r = .stop (noLine r) := by unfold one; rw [h]
theorem one_words {r : List UInt8} {k : Nat} (h : lineAt r = some k) (h42 : ¬ r.head? = some 42) : one r = if 32 < (words (r.take (k + 1))).length then .stop 30 else .got (words (r.take (k + 1))) (r.drop (k + 1)) := by
  unfold one
  rw [h]
  simp only
  rw [if_neg h42]
set_option maxHeartbeats 2000000 in
set_option maxRecDepth 100000 in
theorem seg1 (w : World) (b : Nat) (s0 : List UInt8) (hE : Envs w) (hb6 : 4 ≤ b) (hbB : b < w.heap.size) (R c rest : Code) (hc : Tryd.f12.body = some (.seq R (.scope c))) (hf : findLabel c 1 = some (.seq .skip rest)) (n : Nat) (a : Act) (W : World) (hJ : J w b s0 1 a W) (hn : mu 1 a ≤ n) : rest.wp Tryd.prog (Out w b s0 n) a W := by
  have hc' := Option.some.inj ((show Tryd.f12.body = some (.seq _ (.scope _)) from rfl).symm.trans hc)
  injection hc' with _ hc'
  injection hc' with hc'
  subst hc'
  have hf' := Option.some.inj ((show findLabel _ 1 = some (.seq .skip _) from rfl).symm.trans hf)
  injection hf' with _ hf'
  subst hf'
  clear hf
  obtain ⟨t, d⟩ := a
  obtain ⟨hd, hsz, h0, hO, s, r, q, v5, hP, hC, hsf, h10, hq, h5, hA⟩ := hJ
  simp only at hd hsz h0 h10 h5
  subst hd
  revert h0 h10 h5 hn
  revert hsz
  revert t
  refine lit98 ?_
  intro u0 u1 u2 u3 u4 u5 u6 u7 u8 u9 u10 u11 u12 u13 u14 u15 u16 u17 u18 u19 u20 u21 u22 u23 u24 u25 u26 u27 u28 u29 u30 u31 u32 u33 u34 u35 u36 u37 u38 u39 u40 u41 u42 u43 u44 u45 u46 u47 u48 u49 u50 u51 u52 u53 u54 u55 u56 u57 u58 u59 u60 u61 u62 u63 u64 u65 u66 u67 u68 u69 u70 u71 u72 u73 u74 u75 u76 u77 u78 u79 u80 u81 u82 u83 u84 u85 u86 u87 u88 u89 u90 u91 u92 u93 u94 u95 u96 u97 h0 h10 h5 hn
  obtain rfl : _ = u0 := (Option.some.inj h0).symm
  obtain rfl : _ = u10 := (Option.some.inj h10).symm
  obtain rfl : _ = u5 := (Option.some.inj h5).symm
  obtain ⟨a5, c5, rfl⟩ := hA.shape
  have hmu : 100 * r.length + 50 ≤ n := hn
  have hK := keep_any b s r.length r.length q 0 W hP hsf.length_le
  rw [suffix_drop hsf] at hK
  have HK := hid hK
  clear h0 h10 h5 hn hc hK
  have HP := hid hP
  have HO := hid hO
  have HC := hid hC
  have HA := hid hA
  have HQ := hid hq
  have HE := hid hE
  clear hP hO hC hA hq hE hsf
  unfold Out
  go_wp2_with fail
  refine HK.out.mono ?_; rintro e w1 ⟨rfl, hk⟩
  obtain ⟨hp1, ho1⟩ := hk.out
  have hPv := HP.out
  obtain ⟨v, hv, _⟩ := hPv
  have hq1 := HQ.out.only hv ho1
  have HP1 := hid hp1
  have HO1 := hid (HO.out.trans ho1)
  have HA1 := hid (HA.out.only hv hbB ho1)
  have HL := hid (cutLine_any q r r.length w1 hq1 (fun e => by subst e; rw [hq1.void]; rfl) (Nat.le_refl _))
  have HQ1 := hid hq1
  clear hp1 ho1 hv hk HK hq1 HP HO HA HQ
  go_wp2_with fail
  refine HL.out.mono ?_; rintro e w2 ⟨he, ⟨d, rfl⟩⟩
  have hw2 : Below w1.heap.size w1 (w1.drewN d) := below_drawn (Below.refl _ _) d
  have HB2 := hid hw2
  clear hw2 HL
  rcases hk : lineAt r with _ | k
  · rw [hk] at he
    obtain rfl := he.out
    have HOne := hid (one_none hk)
    have hne := noLine_ne r
    have hnl : (if 512 ≤ r.length then (33 : Int) else -1) = noLine r := rfl
    rw [hnl]
    clear he hk hnl
    generalize noLine r = E at hne HOne ⊢
    have hne2 : (E != 0) = true := by simp [bne, hne]
    have hne3 : (E == 0) = false := beq_eq_false_iff_ne.2 hne
    go_wp2
    go_step3
    refine ⟨⟨rfl, rfl, rfl, HO1.out.trans (Only.of_below HB2.out), ⟨r, E, HP1.out.below HB2.out, HC.out, rfl, HOne.out⟩⟩, ?_⟩
    show 0 < n
    omega
  · rw [hk] at he
    obtain ⟨q2, rfl, hq2⟩ := he.out
    obtain ⟨hkl, hk5, hsuf⟩ := line_last hk
    have hrne : r ≠ [] := fun e => by rw [e] at hkl; simp at hkl
    obtain ⟨g, o, rfl, hcell, _⟩ := HQ1.out.below HB2.out hrne
    have hc0 := hcell 0 (by omega)
    rw [Nat.add_zero] at hc0
    have hhd : r.head? = some r[0] := by rw [List.head?_eq_getElem?, List.getElem?_eq_getElem]
    obtain ⟨z, hz⟩ : ∃ z : Int, z = (r[0].toNat : Int) := ⟨_, rfl⟩
    rw [← hz] at hc0
    have HQ2 := hid (hq2.below HB2.out)
    have HP2 := hid (HP1.out.below HB2.out)
    have HO2 := hid (HO1.out.trans (Only.of_below (b := b) HB2.out))
    have HA2 := hid (HA1.out.below HB2.out)
    have hT2 := (HQ1.out.below HB2.out).take (k + 1)
    have hlk : (r.take (k + 1)).length = k + 1 := by simp; omega
    by_cases h42 : r[0] = 42
    · have hz42 : z = 42 := by rw [hz, h42]; rfl
      subst hz42
      have H42 : Hid (r.head? = some 42) := by rw [hhd, h42]; rfl
      have HK2 := hid hk
      have HT2 := hid hT2
      clear he hq2 hcell hhd hz hT2 hk HQ1 HA1 HP1 HO1 hsuf h42
      go_wp2
      go_step3
      refine ⟨⟨rfl, rfl, rfl, HO2.out, ⟨r, k, _, q2, _, HP2.out, HC.out, HK2.out, H42.out, rfl, HT2.out, rfl, HQ2.out, rfl, HA2.out⟩⟩, ?_⟩
      show 100 * (r.length - (k + 1)) + 80 < n
      omega
    · have hzne : (z == 42) = false := beq_eq_false_iff_ne.2 fun e => h42 (UInt8.toNat_inj.1 (by have : (42 : UInt8).toNat = 42 := rfl; omega))
      have hone := one_words hk (by rw [hhd]; intro e; injection e with e; exact h42 e)
      have hwd := words_any g o (r.take (k + 1)) (k + 1) (w1.drewN d) (HE.out.only HO2.out hb6) hT2 hsuf (by omega) (by omega)
      rw [hlk] at hwd
      have HWd := hid hwd
      have HOne := hid hone
      clear he hq2 hcell hhd hz hT2 hk HQ1 HA1 HP1 HO1 hsuf h42 hone hwd hlk
      go_wp2_with fail
      refine HWd.out.mono ?_; rintro e w3 ⟨⟨v, rfl, hv⟩, hb3⟩
      have HB3 := hb3
      rcases hv.out with ⟨h32, rfl⟩ | ⟨h32, A, rfl, hA3⟩
      · have HS : Hid (one r = .stop 30) := by rw [HOne.out, if_pos h32]; rfl
        clear hv HWd HOne h32 hb3
        go_wp2
        go_step3
        refine ⟨⟨rfl, rfl, rfl, HO2.out.trans (Only.of_below HB3.out), ⟨r, 30, HP2.out.below HB3.out, HC.out, rfl, HS.out⟩⟩, ?_⟩
        show 0 < n
        omega
      · have HS : Hid (one r = .got (words (r.take (k + 1))) (r.drop (k + 1))) := by rw [HOne.out, if_neg (by omega)]; rfl
        have HA3 := hid (hA3.base HO2.out.size)
        generalize words (r.take (k + 1)) = Wd at HS HA3 h32 ⊢
        clear hv HWd HOne hb3 hA3
        go_wp2
        go_step3
        refine ⟨⟨rfl, rfl, rfl, HO2.out.trans (Only.of_below HB3.out), ⟨r, r.drop (k + 1), q2, Wd, _, HP2.out.below HB3.out, HC.out, HS.out, by rw [List.length_drop]; rfl, HQ2.out.below HB3.out, rfl, HA3.out, h32⟩⟩, ?_⟩
        show 100 * (r.length - (k + 1)) + 60 < n
        omega

end Go.Proofs.YtjcegiponjpjiabDoor
