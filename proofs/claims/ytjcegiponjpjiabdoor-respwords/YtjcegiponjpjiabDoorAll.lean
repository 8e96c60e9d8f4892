/- All commands that a parser has: the law's all. -/
import Derived.Test.YtjcegiponjpjiabDoorOuts
namespace Go.Proofs.YtjcegiponjpjiabDoor
open Go.RowKit
set_option maxHeartbeats 2000000 in
set_option maxRecDepth 100000 in
theorem all_any (b : Nat) (s s' : List UInt8) (c : List (List (List UInt8))) (e : Int) (most : Nat) (w : World) (hE : Envs w) (hb6 : 4 ≤ b) (hP : Par w b s 0) (hR : Runs s c s' e) (hm : c.length < most) (hc : c.length ≤ 100000000) (hmost : most ≤ 9223372036854775807) :
    Calls Tryd.prog 8 #[.pointer (some ⟨b, 0, none⟩), .int .i64 most] w fun r w' => ∃ a cap, r = .returned (.tuple #[.slice a c.length cap, .int .i64 e]) ∧ Hid (Outs w.heap.size w' (.slice a c.length cap) c ∧ Par w' b s' e ∧ Only b w w') := by
  have HE := hid hE
  have HP := hid hP
  have HR := hid hR
  clear hE hP hR
  go_enter Tryd.func8, Tryd.ntmps8
  go_wp2
  go_loopw [6, 11] (fun v6 v11 W => ∃ (k : Nat) (r : List UInt8), k ≤ c.length ∧ v11 = .int .i64 k ∧ Hid (Outs w.heap.size W v6 (c.take k)) ∧ Hid (Par W b r 0 ∧ Only b w W) ∧ Hid (Runs r (c.drop k) s' e)) (fun _ v11 _ => c.length + 1 - (intOf v11).toNat)
  case atStart => exact ⟨0, s, Nat.zero_le _, rfl, by rw [List.take_zero]; exact Outs.nil _ _, ⟨HP.out, Only.refl b w⟩, by rw [List.drop_zero]; exact HR.out⟩
  case round =>
    obtain ⟨k, r, hk, rfl, HO, HS, HRk⟩ := hrel
    have hkm : (k : Int) < (most : Int) := by omega
    have hEr := HE.out.only HS.out.2 hb6
    have HN := hid (next_any b r wr hEr hb6 HS.out.1)
    have hPv := HS.out.1
    obtain ⟨pv, hpv, _⟩ := hPv
    have HPv := hid hpv
    clear hEr hpv
    go_wp2_with fail
    refine HN.out.mono ?_; rintro x w1 ⟨o, s1, e1, v, hnx, rfl, hh⟩
    rcases HRk.out.next with ⟨hc0, hn0⟩ | ⟨l, c', r', hc0, hn0, hr'⟩
    · obtain ⟨rfl, rfl, rfl⟩ := hnx.det hn0
      have hkl : k = c.length := by rw [List.drop_eq_nil_iff] at hc0; omega
      subst hkl
      obtain ⟨hp1, ho1, rfl⟩ := hh.out
      have hO1 := HO.out.kept (Kept.of_only HPv.out ho1)
      rw [List.take_length] at hO1
      obtain ⟨a6, c6, rfl⟩ := hO1.shape
      have HO1 := hid hO1
      have HP1 := hid (And.intro hp1 (HS.out.2.trans ho1))
      clear hnx hn0 hh hp1 ho1 hO1 HN hc0 HRk HO
      go_wp2
      go_ret2
      exact ⟨a6, c6, rfl, HO1.out, HP1.out⟩
    · obtain ⟨rfl, rfl, rfl⟩ := hnx.det hn0
      have hkl : k < c.length := by
        rcases Nat.lt_or_ge k c.length with h | h
        · exact h
        · rw [List.drop_eq_nil_of_le h] at hc0; cases hc0
      have hck := List.drop_eq_getElem_cons hkl
      rw [hck] at hc0
      injection hc0 with hl1 hl2
      subst hl1
      subst hl2
      obtain ⟨hp1, ho1, A, rfl, hA1, hA2⟩ := hh.out
      have hO1 := HO.out.kept (Kept.of_only HPv.out ho1)
      have htl : (c.take k).length = k := by simp; omega
      obtain ⟨v', w2, hrun, hO2, hb2, hs2, hst, hlow⟩ := push_cmd hO1 hA2 (Nat.le_trans HS.out.2.size ho1.size) (by omega)
      rw [← List.take_succ_eq_append_getElem hkl] at hO2
      have HRun := hid hrun
      have HO2 := hid hO2
      have ho2 := HS.out.2.trans ho1
      have hbB : b < w.heap.size := HP.out.lt
      have HP2 := hid (And.intro (hp1.still hst (hlow b hbB)) (ho2.then_below hb2))
      have HR2 := hid hr'
      clear hnx hn0 hh hp1 ho1 hO1 HN HRk HO hrun hO2 hb2 hs2 hst hlow hr' hck hA1 hA2 htl ho2
      go_wp2_with (at_builtin; refine wpList_append_runs rfl _ _ 29 29 rfl _ _ _ _ rfl rfl HRun.out ?_)
      exact ⟨⟨k + 1, _, by omega, by go_num, HO2.out, HP2.out, HR2.out⟩, by simp [intOf]; omega⟩
set_option maxHeartbeats 2000000 in
set_option maxRecDepth 100000 in
/-- .. of a parser that has told an error -/
theorem all_ill (b : Nat) (e : Int) (most : Nat) (w : World) (hP : Par w b [] e) (he0 : e ≠ 0) (he1 : e ≠ -1) (hm : 0 < most) (hmost : most ≤ 9223372036854775807) :
    Calls Tryd.prog 8 #[.pointer (some ⟨b, 0, none⟩), .int .i64 most] w fun r w' => r = .returned (.tuple #[.slice none 0 0, .int .i64 e]) ∧ Hid (Par w' b [] e ∧ Only b w w') := by
  obtain ⟨v, h1, ⟨a, cap, rfl, _⟩, _⟩ := hP
  have HN := hid (next_ill b e a cap w h1 he0 he1)
  have hmz : (0 : Int) < (most : Int) := by omega
  clear h1
  go_enter Tryd.func8, Tryd.ntmps8
  go_wp2
  go_loopw [6, 11] (fun v6 v11 W => v6 = .slice none 0 0 ∧ v11 = .int .i64 0 ∧ W = w) (fun _ _ _ => 0)
  case atStart => exact ⟨rfl, rfl, rfl⟩
  case round =>
    obtain ⟨rfl, rfl, rfl⟩ := hrel
    go_wp2_with fail
    refine HN.out.mono ?_; rintro x w1 ⟨rfl, hh⟩
    have HP1 := hid hh.out
    clear hh HN
    go_wp2
    go_ret2
    exact ⟨rfl, ⟨_, HP1.out.1, Strm.nil _, fun a n c e => by cases e⟩, HP1.out.2⟩

end Go.Proofs.YtjcegiponjpjiabDoor
