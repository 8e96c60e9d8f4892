/- The law RespAgain, walked. -/
import Derived.Test.YtjcegiponjpjiaaDoorConv
namespace Go.Proofs.YtjcegiponjpjiaaDoor
open Go.RowKit

set_option maxHeartbeats 4000000 in
set_option maxRecDepth 100000 in
theorem respAgain_walk (s more : List UInt8) (w : World) (hE : Envs w) (hl : s.length ≤ 140737488351232) (_hl2 : more.length ≤ 140737488351232) :
    Calls Tryd.prog 5 #[.string ⟨s.toArray⟩, .string ⟨more.toArray⟩] w fun e w' => e = .returned (.bool true) ∧ Below w.heap.size w w' := by
  have HN := hid (new_par w)
  have HE := hid hE
  have h3 := hE.room
  clear hE
  go_enter Tryd.func5, Tryd.ntmps5
  go_wp2_with fail
  refine HN.out.mono ?_; rintro e w1 ⟨rfl, hh⟩
  obtain ⟨hp1, hb1, hlt1⟩ := hh.out
  obtain ⟨b, hb⟩ : ∃ b, b = w.heap.size := ⟨_, rfl⟩
  rw [← hb] at hp1 hlt1 ⊢
  have Hb := hid hb
  clear hb hh HN
  by_cases hs : 20000 < s.length
  · have HA := hid (alive_any w1 (HE.out.below hb1 h3))
    have HB := hid hb1
    have hz : (20000 : Int) < (s.length : Int) := by omega
    clear hp1 hb1 hlt1
    go_wp2_with fail
    refine HA.out.mono ?_; rintro e w2 ⟨rfl, hb2⟩
    have HB2 := hid (HB.out.trans (hb2.out.mono HB.out.size))
    clear hb2
    go_wp2
    go_ret
    exact ⟨rfl, HB2.out⟩
  · have hz : ¬ ((20000 : Int) < (s.length : Int)) := by omega
    obtain ⟨cap, W1, hcv, hat, hbc, hcap, _⟩ := conv_bytes s w1
    have HF := hid (feed_par b [] s (some ⟨w1.heap.size, 0, none⟩) cap W1 (hp1.below hbc) hat (by simp; omega))
    have HB1 : Hid (Below b w W1) := by rw [Hb.out]; exact hb1.trans (hbc.mono hb1.size)
    clear hp1 hb1 hlt1 hat hbc hcap
    go_wp2_with fail
    refine HF.out.mono ?_; rintro e w2 ⟨rfl, hh⟩
    obtain ⟨hp2, hf2⟩ := hh.out
    rw [List.nil_append] at hp2
    have hb2 : Below b w w2 := HB1.out.trans (hf2.below _ (Nat.le_refl _))
    have hb3' : 3 ≤ b := by rw [Hb.out]; exact h3
    obtain ⟨c, s', x, hR, hcl⟩ := runs_ex s.length s (Nat.le_refl _)
    have HA : Hid (Calls Tryd.prog 12 #[.pointer (some ⟨b, 0, none⟩), .int .i64 ((s.length : Int) + 1)] w2 fun r w' => ∃ a cap, r = .returned (.tuple #[.slice a c.length cap, .int .i64 x]) ∧ Hid (Outs w2.heap.size w' (.slice a c.length cap) c ∧ Par w' b s' x ∧ Only b w2 w')) := by
      have h := all_any b s s' c x (s.length + 1) w2 (HE.out.below hb2 hb3') hb3' hp2 hR (by omega) (by omega) (by omega)
      have e : ((s.length + 1 : Nat) : Int) = (s.length : Int) + 1 := by omega
      rw [e] at h
      exact h
    have herr := hR.err
    have HB2 := hid hb2
    have HErr := hid herr
    clear hp2 hf2 hb2 hh HF HB1 hR herr
    go_wp2_with fail
    refine HA.out.mono ?_; rintro e w3 ⟨a, cap3, rfl, hh⟩
    obtain ⟨ho3, hp3, hon3⟩ := hh.out
    have hb3 : Below b w w3 := HB2.out.trans (hon3.below (Nat.le_refl _) (by rw [Hb.out]; exact HB2.out.size))
    have HE3 := hid (HE.out.below hb3 hb3')
    have HB3 := hid hb3
    have HP3 := hid hp3
    clear hh ho3 hp3 hon3 hb3 HA HB2
    by_cases hx : x = 0
    · subst hx
      have HA := hid (alive_any w3 HE3.out)
      go_wp2_with fail
      refine HA.out.mono ?_; rintro e w4 ⟨rfl, hb4⟩
      have HB4 : Hid (Below w.heap.size w w4) := by
        have := HB3.out.trans (hb4.out.mono (by rw [Hb.out]; exact HB3.out.size))
        rwa [Hb.out] at this
      clear hb4
      go_wp2
      go_ret
      exact ⟨rfl, HB4.out⟩
    · have hxz : (x == 0) = false := beq_eq_false_iff_ne.2 hx
      have hs' := HErr.out.2 hx
      have hx1 := HErr.out.1
      obtain ⟨cap4, W4, hcv4, hat4, hbc4, hcap4, _⟩ := conv_bytes more w3
      have hp4 := HP3.out.below hbc4
      rw [hs'] at hp4
      obtain ⟨pv, hpv, _⟩ := id hp4
      have HF := hid (feed_ill b pv x (.slice (some ⟨w3.heap.size, 0, none⟩) more.length cap4) W4 hpv hx)
      have HA2 := hid (all_ill b x 2 W4 hp4 hx hx1 (by decide) (by decide))
      have HB4 := hid (HB3.out.trans (hbc4.mono (by rw [Hb.out]; exact HB3.out.size)))
      clear hp4 hpv hat4 hbc4 hcap4 hs' HP3 HB3 HErr
      go_wp2_with fail
      refine HF.out.mono ?_; rintro e w5 ⟨rfl, rfl⟩
      go_wp2_with fail
      refine HA2.out.mono ?_; rintro e w6 ⟨rfl, hh⟩
      obtain ⟨hp6, hon6⟩ := hh.out
      have hb6 : Below b w w6 := HB4.out.trans (hon6.below (Nat.le_refl _) (by rw [Hb.out]; exact HB4.out.size))
      have HA3 := hid (alive_any w6 (HE.out.below hb6 hb3'))
      have HB6 := hid hb6
      have HP6 := hid hp6
      clear hh hp6 hon6 hb6 HA2 HF HB4
      go_wp2_with fail
      refine HA3.out.mono ?_; rintro e w7 ⟨rfl, hb7⟩
      have HL := hid (left_par b [] x w7 (HP6.out.below hb7.out))
      have HB7 : Hid (Below w.heap.size w w7) := by
        have := HB6.out.trans (hb7.out.mono (by rw [Hb.out]; exact HB6.out.size))
        rwa [Hb.out] at this
      clear hb7 HA3 HB6 HP6
      go_wp2_with fail
      refine HL.out.mono ?_; rintro e w8 ⟨rfl, rfl⟩
      go_wp2
      go_ret
      exact ⟨rfl, HB7.out⟩

end Go.Proofs.YtjcegiponjpjiaaDoor
