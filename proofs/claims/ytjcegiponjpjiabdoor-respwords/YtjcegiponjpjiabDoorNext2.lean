/- Next, from the label count on. -/
import Derived.Test.YtjcegiponjpjiabDoorNext4
namespace Go.Proofs.YtjcegiponjpjiabDoor
open Go.RowKit

theorem numGo_le (most : Nat) : ∀ (ds : List UInt8) (n m : Nat), n ≤ most → numGo most n ds = some m → m ≤ most
  | [], n, m, hn, h => by unfold numGo at h; injection h with h; omega
  | d :: ds, n, m, hn, h => by
    unfold numGo at h
    split at h
    · split at h
      · cases h
      · exact numGo_le most ds _ m (by omega) h
    · cases h
theorem num_le {l : List UInt8} {most m : Nat} (h : num l most = some m) : m ≤ most := by
  unfold num at h
  split at h
  · cases h
  · split at h
    · cases h
    · exact numGo_le most _ 0 m (Nat.zero_le _) h
theorem line_first {r : List UInt8} {k : Nat} (h : lineAt r = some k) (h42 : r.head? = some 42) : 0 < k ∧ k < r.length ∧ k < 512 := by
  rcases lineAt_cases r with ⟨h', _⟩ | ⟨m, h', h5, h6, h7⟩
  · rw [h'] at h; cases h
  · rw [h'] at h
    injection h with h
    subst h
    refine ⟨?_, h6, h7⟩
    rcases Nat.eq_zero_or_pos m with e | e
    · subst e
      have := (Lib.indexByte_some h5).1
      rw [List.getElem?_take, if_pos (by decide)] at this
      rw [List.head?_eq_getElem?, this] at h42
      exact absurd h42 (by decide)
    · exact e
theorem one_star {r : List UInt8} {k : Nat} (h : lineAt r = some k) (h42 : r.head? = some 42) : one r = match num (r.take (k + 1)) 32 with
      | none => .stop 30
      | some n => bulks n [] (r.drop (k + 1)) := by
  unfold one
  rw [h]
  simp only
  rw [if_pos h42]
  cases num (r.take (k + 1)) 32 <;> rfl
set_option maxHeartbeats 2000000 in
set_option maxRecDepth 100000 in
theorem seg2 (w : World) (b : Nat) (s0 : List UInt8) (hbB : b < w.heap.size) (R c rest : Code) (hc : Tryd.f12.body = some (.seq R (.scope c))) (hf : findLabel c 2 = some (.seq .skip rest)) (n : Nat) (a : Act) (W : World) (hJ : J w b s0 2 a W) (hn : mu 2 a ≤ n) : rest.wp Tryd.prog (Out w b s0 n) a W := by
  have hc' := Option.some.inj ((show Tryd.f12.body = some (.seq _ (.scope _)) from rfl).symm.trans hc)
  injection hc' with _ hc'
  injection hc' with hc'
  subst hc'
  have hf' := Option.some.inj ((show findLabel _ 2 = some (.seq .skip _) from rfl).symm.trans hf)
  injection hf' with _ hf'
  subst hf'
  clear hf
  obtain ⟨t, d⟩ := a
  obtain ⟨hd, hsz, h0, hO, r0, k, p, q, v5, hP, hC, hk, h42, h6, hp, h10, hq, h5, hA⟩ := hJ
  simp only at hd hsz h0 h10 h5 h6
  subst hd
  revert h0 h6 h10 h5 hn
  revert hsz
  revert t
  refine lit98 ?_
  intro u0 u1 u2 u3 u4 u5 u6 u7 u8 u9 u10 u11 u12 u13 u14 u15 u16 u17 u18 u19 u20 u21 u22 u23 u24 u25 u26 u27 u28 u29 u30 u31 u32 u33 u34 u35 u36 u37 u38 u39 u40 u41 u42 u43 u44 u45 u46 u47 u48 u49 u50 u51 u52 u53 u54 u55 u56 u57 u58 u59 u60 u61 u62 u63 u64 u65 u66 u67 u68 u69 u70 u71 u72 u73 u74 u75 u76 u77 u78 u79 u80 u81 u82 u83 u84 u85 u86 u87 u88 u89 u90 u91 u92 u93 u94 u95 u96 u97 h0 h6 h10 h5 hn
  obtain rfl : _ = u0 := (Option.some.inj h0).symm
  obtain rfl : _ = u10 := (Option.some.inj h10).symm
  obtain rfl : _ = u5 := (Option.some.inj h5).symm
  obtain rfl : _ = u6 := (Option.some.inj h6).symm
  obtain ⟨a5, c5, rfl⟩ := hA.shape
  have hmu : 100 * (r0.length - (k + 1)) + 80 ≤ n := hn
  obtain ⟨hk0, hkl, hk5⟩ := line_first hk h42
  have hst := one_star hk h42
  have hlk : (r0.take (k + 1)).length = k + 1 := by simp; omega
  have hnb := number_any p (r0.take (k + 1)) (k + 1) 32 30 W hp (by omega) (by omega) (by omega) (by decide)
  rw [hlk] at hnb
  have hway : (∃ m : Nat, numVal (r0.take (k + 1)) 32 30 = .tuple #[.int .i64 m, .int .i64 0] ∧ m ≤ 32 ∧ one r0 = bulks m [] (r0.drop (k + 1))) ∨ (numVal (r0.take (k + 1)) 32 30 = .tuple #[.int .i64 0, .int .i64 30] ∧ one r0 = .stop 30) := by
    cases hn : num (r0.take (k + 1)) 32 with
    | none => rw [hn] at hst; exact .inr ⟨numVal_none hn, hst⟩
    | some m => rw [hn] at hst; exact .inl ⟨m, numVal_some hn, num_le hn, hst⟩
  generalize numVal (r0.take (k + 1)) 32 30 = NV at hnb hway
  have HNb := hid hnb
  have HW := hid hway
  have HCd := hid hc
  clear h0 h10 h5 h6 hn hst hlk hnb hway hc
  have HP := hid hP
  have HO := hid hO
  have HC := hid hC
  have HA := hid hA
  have HQ := hid hq
  clear hP hO hC hA hq hp hk h42
  unfold Out
  go_wp2_with fail
  refine HNb.out.mono ?_; rintro e w1 ⟨rfl, hb1⟩
  have HB1 := hid hb1
  clear hb1 HNb
  rcases HW.out with ⟨m, rfl, hm, hone⟩ | ⟨rfl, hone⟩
  · have HOne := hid hone
    clear hone HW
    go_wp2
    go_step3
    refine (‹∀ (a : Act) (w : World), Code.wp _ _ _ a w → _› _ _ ?_)
    refine seg4 w b s0 hbB R _ _ HCd.out rfl n _ _ ?_ ?_
    · refine ⟨rfl, rfl, rfl, HO.out.trans (Only.of_below HB1.out), ⟨r0, r0.drop (k + 1), q, [], _, m, HP.out.below HB1.out, HC.out, HOne.out, Nat.zero_le _, hm, by rw [List.length_drop]; rfl, HQ.out.below HB1.out, rfl, HA.out.below HB1.out, rfl⟩⟩
    · show 100 * (r0.length - (k + 1)) + 70 ≤ n
      omega
  · have HOne := hid hone
    clear hone HW
    go_wp2
    go_step3
    refine ⟨⟨rfl, rfl, rfl, HO.out.trans (Only.of_below HB1.out), ⟨r0, 30, HP.out.below HB1.out, HC.out, rfl, HOne.out⟩⟩, ?_⟩
    show 0 < n
    omega

end Go.Proofs.YtjcegiponjpjiabDoor
