/- Next, from the label argument on. -/
import Derived.Test.YtjcegiponjpjiabDoorNext3
namespace Go.Proofs.YtjcegiponjpjiabDoor
open Go.RowKit

theorem bulks_stop {m e : Nat} {acc : List (List UInt8)} {r : List UInt8} {x : Int} (hm : m = e + 1) (h : bulk r = .stop x) : bulks m acc r = .stop x := by
  subst hm
  unfold bulks
  rw [h]
theorem bulks_got {m e : Nat} {acc a : List (List UInt8)} {r r' : List UInt8} (hm : m = e + 1) (h : bulk r = .got a r') : bulks m acc r = bulks e (acc ++ a) r' := by
  subst hm
  conv => lhs; unfold bulks
  rw [h]
set_option maxHeartbeats 2000000 in
set_option maxRecDepth 100000 in
theorem seg4 (w : World) (b : Nat) (s0 : List UInt8) (hbB : b < w.heap.size) (R c rest : Code) (hc : Tryd.f12.body = some (.seq R (.scope c))) (hf : findLabel c 4 = some (.seq .skip rest)) (n : Nat) (a : Act) (W : World) (hJ : J w b s0 4 a W) (hn : mu 4 a ≤ n) : rest.wp Tryd.prog (Out w b s0 n) a W := by
  have hc' := Option.some.inj ((show Tryd.f12.body = some (.seq _ (.scope _)) from rfl).symm.trans hc)
  injection hc' with _ hc'
  injection hc' with hc'
  subst hc'
  have hf' := Option.some.inj ((show findLabel _ 4 = some (.seq .skip _) from rfl).symm.trans hf)
  injection hf' with _ hf'
  subst hf'
  clear hc hf
  obtain ⟨t, d⟩ := a
  obtain ⟨hd, hsz, h0, hO, r0, r, q, acc, v5, many, hP, hC, hone, ham, hm32, h10, hq, h5, hA, h8⟩ := hJ
  simp only at hd hsz h0 h10 h5 h8
  subst hd
  revert h0 h10 h5 h8 hn
  revert hsz
  revert t
  refine lit98 ?_
  intro u0 u1 u2 u3 u4 u5 u6 u7 u8 u9 u10 u11 u12 u13 u14 u15 u16 u17 u18 u19 u20 u21 u22 u23 u24 u25 u26 u27 u28 u29 u30 u31 u32 u33 u34 u35 u36 u37 u38 u39 u40 u41 u42 u43 u44 u45 u46 u47 u48 u49 u50 u51 u52 u53 u54 u55 u56 u57 u58 u59 u60 u61 u62 u63 u64 u65 u66 u67 u68 u69 u70 u71 u72 u73 u74 u75 u76 u77 u78 u79 u80 u81 u82 u83 u84 u85 u86 u87 u88 u89 u90 u91 u92 u93 u94 u95 u96 u97 h0 h10 h5 h8 hn
  obtain rfl : _ = u0 := (Option.some.inj h0).symm
  obtain rfl : _ = u10 := (Option.some.inj h10).symm
  obtain rfl : _ = u5 := (Option.some.inj h5).symm
  obtain rfl : _ = u8 := (Option.some.inj h8).symm
  obtain ⟨a5, c5, rfl⟩ := hA.shape
  have hmu : 100 * r.length + 70 ≤ n := hn
  clear h0 h10 h5 h8 hn
  have HP := hid hP
  have HO := hid hO
  have HC := hid hC
  have HOne := hid hone
  have HA := hid hA
  have HQ := hid hq
  clear hP hO hC hone hA hq
  unfold Out
  by_cases hlm : acc.length = many
  · have HG : Hid (one r0 = .got acc r) := by
      have := HOne.out
      rw [hlm, Nat.sub_self] at this
      exact this
    have hz : ((acc.length : Int) == (many : Int)) = true := by rw [hlm]; simp
    subst hlm
    go_wp2
    go_step3
    refine ⟨⟨rfl, rfl, rfl, HO.out, ⟨r0, r, q, acc, _, HP.out, HC.out, HG.out, rfl, HQ.out, rfl, HA.out, hm32⟩⟩, ?_⟩
    show 100 * r.length + 60 < n
    omega
  · obtain ⟨m, hm⟩ : ∃ m, many - acc.length = m + 1 := ⟨many - acc.length - 1, by omega⟩
    have hz : ((acc.length : Int) == (many : Int)) = false := beq_eq_false_iff_ne.2 (by omega)
    have HSz := hid (cutSize_any q r r.length W HQ.out (fun e => by subst e; rw [HQ.out.void]; rfl) (Nat.le_refl _))
    have HBad := hid fun x (h : bulk r = .stop x) => HOne.out.trans (bulks_stop hm h)
    have HGood := hid fun a r' (h : bulk r = .got a r') => HOne.out.trans (bulks_got hm h)
    have hmm : m + acc.length + 1 = many := by omega
    clear hm HOne
    go_wp2_with fail
    refine HSz.out.mono ?_; rintro e w1 ⟨⟨v, rfl, hv⟩, hb1⟩
    have HB1 := hb1
    rcases hv.out with ⟨hse, q', n', c', rfl⟩ | ⟨hse, k, n1, q2, hk, hnum, rfl, hq2⟩
    · have HS := hid (HBad.out _ (bulk_bad hse))
      have hne : (sizeErr r != 0) = true := by simp [bne, hse]
      have hne2 : (sizeErr r == 0) = false := beq_eq_false_iff_ne.2 hse
      generalize sizeErr r = E at HS hne hne2 ⊢
      clear hv HSz HBad HGood hse hb1
      go_wp2
      go_step3
      refine ⟨⟨rfl, rfl, rfl, HO.out.trans (Only.of_below HB1.out), ⟨r0, E, HP.out.below HB1.out, HC.out, rfl, HS.out⟩⟩, ?_⟩
      show 0 < n
      omega
    · have hbk := bulk_good hse hk hnum
      have hq2' := hq2.below HB1.out
      have hk2 : k < r.length := by
        rcases lineAt_cases r with ⟨h, _⟩ | ⟨m, h, _, h2, _⟩
        · rw [h] at hk; cases hk
        · rw [h] at hk; injection hk with hk; omega
      have hdl : (r.drop (k + 1)).length = r.length - (k + 1) := by simp
      have hcb := cutBytes_any q2 (r.drop (k + 1)) (r.length - (k + 1)) n1 w1 hq2' (by omega)
      rw [hdl] at hcb
      have HCB := hid hcb
      obtain ⟨S, hS⟩ : ∃ S, S = r.drop (k + 1) := ⟨_, rfl⟩
      rw [← hS] at hbk hq2' HCB hdl
      have HBk := hid hbk
      have HQ2 := hid hq2'
      have HP1 := hid (HP.out.below HB1.out)
      have HO1 := hid (HO.out.trans (Only.of_below HB1.out))
      have HA1 := hid (HA.out.below HB1.out)
      clear hbk hq2' hcb hq2 hnum hk hse hv HSz hb1 HB1 HP HO HA HQ hS
      go_wp2_with fail
      refine HCB.out.mono ?_; rintro e w2 ⟨⟨v, rfl, hv⟩, ⟨d, rfl⟩⟩
      have hw2 : Below w1.heap.size w1 (w1.drewN d) := below_drawn (Below.refl _ _) d
      have HB2 := hid hw2
      rcases hv.out with ⟨hev, rfl⟩ | ⟨hev, q3, rfl, hq3⟩
      · have HS := hid (HBad.out _ (by rw [HBk.out, if_neg hev]))
        have hne : (endVal S n1 != 0) = true := by simp [bne, hev]
        have hne2 : (endVal S n1 == 0) = false := beq_eq_false_iff_ne.2 hev
        generalize endVal S n1 = E at HS hne hne2 ⊢
        clear hv HCB HBad HGood hev hw2 HBk
        go_wp2
        go_step3
        refine ⟨⟨rfl, rfl, rfl, HO1.out.trans (Only.of_below HB2.out), ⟨r0, E, HP1.out.below HB2.out, HC.out, rfl, HS.out⟩⟩, ?_⟩
        show 0 < n
        omega
      · have hS2 := endVal_zero hev
        have HG := hid (HGood.out _ _ (by rw [HBk.out, if_pos hev]))
        have htl : (S.take n1).length = n1 := by simp; omega
        have hpush := push_arg n1 (HA1.out.below HB2.out) ((HQ2.out.take n1).below HB2.out) (Nat.le_trans HO1.out.size hw2.size) (by omega)
        rw [htl] at hpush
        obtain ⟨v6, w3, hrun, hA3, hb3, hs3, hst3⟩ := hpush
        have HR := hid hrun
        have HA3 := hid hA3
        have HQ3 := hid ((hq3.below HB2.out).still hst3)
        have HP3 := hid ((HP1.out.below HB2.out).still hst3 (hb3.block b hbB))
        have HO3 := hid ((HO1.out.trans (Only.of_below HB2.out)).then_below hb3)
        have hal : (acc ++ [S.take n1]).length = acc.length + 1 := by simp
        have hdl3 : S.length - (n1 + 2) = (S.drop (n1 + 2)).length := by simp
        have HAl := hid hal
        have HG2 : Hid (one r0 = bulks (many - (acc ++ [S.take n1]).length) (acc ++ [S.take n1]) (S.drop (n1 + 2))) := by
          unfold Hid
          rw [show many - (acc ++ [S.take n1]).length = m by omega]; exact HG.out
        have hlt3 : (S.drop (n1 + 2)).length < r.length := by simp; omega
        rw [hdl3]
        obtain ⟨S3, hS3⟩ : ∃ S3, S3 = S.drop (n1 + 2) := ⟨_, rfl⟩
        rw [← hS3] at HG2 hlt3 HQ3 ⊢
        clear hdl3 hS3 HG hal
        clear hv HCB HBad HGood hev hw2 HBk hrun hA3 hb3 hs3 hst3 hq3
        go_wp2_with (at_builtin; refine wpList_append_runs rfl _ _ 42 42 rfl _ _ _ _ rfl rfl HR.out ?_)
        go_step3
        refine ⟨⟨rfl, rfl, rfl, HO3.out, ⟨r0, S3, q3, _, _, many, HP3.out, HC.out, HG2.out, by have := HAl.out; omega, hm32, rfl, HQ3.out, rfl, HA3.out, rfl⟩⟩, ?_⟩
        show 100 * S3.length + 70 < n
        omega

end Go.Proofs.YtjcegiponjpjiabDoor
