/- Next, from the label end on. -/
import Derived.Test.YtjcegiponjpjiabDoorNext0
namespace Go.Proofs.YtjcegiponjpjiabDoor
open Go.RowKit

theorem suffix_drop {r s : List UInt8} (h : r <:+ s) : s.drop (s.length - r.length) = r := (List.suffix_iff_eq_drop.1 h).symm
set_option maxHeartbeats 2000000 in
set_option maxRecDepth 100000 in
theorem seg3 (w : World) (b : Nat) (s0 : List UInt8) (hbB : b < w.heap.size) (R c rest : Code) (hc : Tryd.f12.body = some (.seq R (.scope c))) (hf : findLabel c 3 = some rest) (n : Nat) (a : Act) (W : World) (hJ : J w b s0 3 a W) (hn : mu 3 a ≤ n) : rest.wp Tryd.prog (Out w b s0 n) a W := by
  have hc' := Option.some.inj ((show Tryd.f12.body = some (.seq _ (.scope _)) from rfl).symm.trans hc)
  injection hc' with _ hc'
  injection hc' with hc'
  subst hc'
  obtain rfl : _ = rest := Option.some.inj ((show findLabel _ 3 = some _ from rfl).symm.trans hf)
  clear hc hf
  obtain ⟨t, d⟩ := a
  obtain ⟨hd, hsz, h0, hO, r0, r, q, l, v5, hP, hC, hone, h10, hq, h5, hA, hl⟩ := hJ
  simp only at hd hsz h0 h10 h5
  subst hd
  revert h0 h10 h5 hn
  revert hsz
  revert t
  refine lit98 ?_
  intro u0 u1 u2 u3 u4 u5 u6 u7 u8 u9 u10 u11 u12 u13 u14 u15 u16 u17 u18 u19 u20 u21 u22 u23 u24 u25 u26 u27 u28 u29 u30 u31 u32 u33 u34 u35 u36 u37 u38 u39 u40 u41 u42 u43 u44 u45 u46 u47 u48 u49 u50 u51 u52 u53 u54 u55 u56 u57 u58 u59 u60 u61 u62 u63 u64 u65 u66 u67 u68 u69 u70 u71 u72 u73 u74 u75 u76 u77 u78 u79 u80 u81 u82 u83 u84 u85 u86 u87 u88 u89 u90 u91 u92 u93 u94 u95 u96 u97 h0 h10 h5 hn
  obtain rfl : _ = u0 := (Option.some.inj h0).symm
  obtain rfl : _ = u10 := (Option.some.inj h10).symm
  obtain rfl : _ = u5 := (Option.some.inj h5).symm
  obtain ⟨a5, c5, rfl⟩ := hA.shape
  have hmu : 100 * r.length + 60 ≤ n := hn
  clear h0 h10 h5 hn
  have HP := hid hP
  have HO := hid hO
  have HC := hid hC
  have HOne := hid hone
  have HA := hid hA
  have HQ := hid hq
  clear hP hO hC hone hA hq
  unfold Out
  by_cases hl0 : l = []
  · subst hl0
    have hz : (([] : List (List UInt8)).length : Int) = 0 := rfl
    simp only [List.length_nil] at HA ⊢
    go_wp2
    go_step3
    refine ⟨⟨rfl, rfl, rfl, HO.out, ⟨r0, r, q, _, HP.out, fun o s' e h => HC.out o s' e (.skip HOne.out h), one_suffix HOne.out, rfl, HQ.out, rfl, HA.out⟩⟩, ?_⟩
    show 100 * r.length + 50 < n
    omega
  · have hpos : 0 < l.length := List.length_pos_iff.2 hl0
    have hz : ((l.length : Int) == 0) = false := beq_eq_false_iff_ne.2 (by omega)
    have hle := (one_suffix HOne.out).length_le
    have hK := keep_any b r0 r.length r.length q 0 W HP.out hle
    rw [suffix_drop (one_suffix HOne.out)] at hK
    have HK := hid hK
    clear hK
    go_wp2_with fail
    refine HK.out.mono ?_; rintro e w1 ⟨rfl, hk⟩
    obtain ⟨hp1, ho1⟩ := hk.out
    have hPv := HP.out
    obtain ⟨v, hv, _⟩ := hPv
    have hA1 := HA.out.only hv hbB ho1
    have HT := hid (texts_any a5 l c5 w1 hA1.parts.2 hl0 (by omega))
    have HP1 := hid hp1
    have HO1 := hid (HO.out.trans ho1)
    clear hA1 hp1 ho1 hk hv HK
    go_wp2_with fail
    refine HT.out.mono ?_; rintro e w2 ⟨rfl, ht⟩
    have HR := hid ht.out.1
    have HB := hid ht.out.2
    clear ht HT
    go_wp2
    simp only [jumps]
    go_ret3
    exact ⟨some l, r, 0, _, HC.out _ _ _ (.some HOne.out hl0), rfl, HP1.out.below HB.out, HO1.out.trans (Only.of_below HB.out), _, rfl, HO1.out.size, HR.out⟩

end Go.Proofs.YtjcegiponjpjiabDoor
