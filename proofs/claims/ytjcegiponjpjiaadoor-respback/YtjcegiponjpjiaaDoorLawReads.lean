/- The law RespReads, walked. -/
import Derived.Test.YtjcegiponjpjiaaDoorConv
import Derived.Test.YtjcegiponjpjiaaDoorRefAll
namespace Go.Proofs.YtjcegiponjpjiaaDoor
open Go.RowKit

theorem one_len {s r : List UInt8} {l : List (List UInt8)} (h : one s = .got l r) : l.length ≤ 32 := by
  unfold one at h
  split at h
  · cases h
  · split at h
    · split at h
      · cases h
      · rename_i n hn
        have h1 := (bulks_rest _ h).2
        have h2 := num_le hn
        simp at h1
        omega
    · split at h
      · cases h
      · rename_i h32
        injection h with h _
        subst h
        omega
theorem Runs.short {s s' : List UInt8} {c : List (List (List UInt8))} {e : Int} (h : Runs s c s' e) : ∀ x ∈ c, x.length ≤ 100000000 := by
  induction h with
  | more h => intro x hx; cases hx
  | bad h he => intro x hx; cases hx
  | skip h _ ih => exact ih
  | some h _ _ ih =>
    intro x hx
    rcases List.mem_cons.1 hx with rfl | hx
    · have := one_len h; omega
    · exact ih x hx
set_option maxHeartbeats 2000000 in
set_option maxRecDepth 100000 in
theorem respReads_walk (s : List UInt8) (w : World) (hE : Envs w) (hl : s.length ≤ 140737488351232) :
    Calls Tryd.prog 3 #[.string ⟨s.toArray⟩] w fun e w' => e = .returned (.bool true) ∧ Below w.heap.size w w' := by
  have HN := hid (new_par w)
  have HE := hid hE
  have h3 := hE.room
  clear hE
  go_enter Tryd.func3, Tryd.ntmps3
  go_wp2_with fail
  refine HN.out.mono ?_; rintro e w1 ⟨rfl, hh⟩
  obtain ⟨hp1, hb1, hlt1⟩ := hh.out
  obtain ⟨b, hb⟩ : ∃ b, b = w.heap.size := ⟨_, rfl⟩
  rw [← hb] at hp1 hlt1 ⊢
  have Hb := hid hb
  clear hb hh HN
  by_cases hs : 20000 < s.length
  · have HA := hid (alive_any w1 (HE.out.below hb1 h3))
    have HB := hid hb1
    have hz : (20000 : Int) < (s.length : Int) := by omega
    clear hp1 hb1 hlt1
    go_wp2_with fail
    refine HA.out.mono ?_; rintro e w2 ⟨rfl, hb2⟩
    have HB2 := hid (HB.out.trans (hb2.out.mono HB.out.size))
    clear hb2
    go_wp2
    go_ret
    exact ⟨rfl, HB2.out⟩
  · have hz : ¬ ((20000 : Int) < (s.length : Int)) := by omega
    obtain ⟨cap, W1, hcv, hat, hbc, hcap, _⟩ := conv_bytes s w1
    have HF := hid (feed_par b [] s (some ⟨w1.heap.size, 0, none⟩) cap W1 (hp1.below hbc) hat (by simp; omega))
    have HB1 : Hid (Below b w W1) := by rw [Hb.out]; exact hb1.trans (hbc.mono hb1.size)
    clear hp1 hb1 hlt1 hat hbc hcap
    go_wp2_with fail
    refine HF.out.mono ?_; rintro e w2 ⟨rfl, hh⟩
    obtain ⟨hp2, hf2⟩ := hh.out
    rw [List.nil_append] at hp2
    have hb2 : Below b w w2 := HB1.out.trans (hf2.below _ (Nat.le_refl _))
    have hb3' : 3 ≤ b := by rw [Hb.out]; exact h3
    obtain ⟨c, s', x, hR, hcl⟩ := runs_ex s.length s (Nat.le_refl _)
    have HA : Hid (Calls Tryd.prog 12 #[.pointer (some ⟨b, 0, none⟩), .int .i64 ((s.length : Int) + 1)] w2 fun r w' => ∃ a cap, r = .returned (.tuple #[.slice a c.length cap, .int .i64 x]) ∧ Hid (Outs w2.heap.size w' (.slice a c.length cap) c ∧ Par w' b s' x ∧ Only b w2 w')) := by
      have h := all_any b s s' c x (s.length + 1) w2 (HE.out.below hb2 hb3') hb3' hp2 hR (by omega) (by omega) (by omega)
      have e : ((s.length + 1 : Nat) : Int) = (s.length : Int) + 1 := by omega
      rw [e] at h
      exact h
    have HR := hid hR
    have HB2 := hid hb2
    clear hp2 hf2 hb2 hh HF HB1 hR
    go_wp2_with fail
    refine HA.out.mono ?_; rintro e w3 ⟨a, cap3, rfl, hh⟩
    obtain ⟨ho3, hp3, hon3⟩ := hh.out
    have hb3 : Below b w w3 := HB2.out.trans (hon3.below (Nat.le_refl _) (by rw [Hb.out]; exact HB2.out.size))
    have HB3 := hid hb3
    have HP3 := hid hp3
    have HO3 := hid ho3
    have HAl := hid (rall_any s w3 (by omega))
    clear hh ho3 hp3 hon3 hb3 HA HB2
    go_wp2_with fail
    refine HAl.out.mono ?_; rintro e w4 ⟨c4, s4, x4, p4, cap4, hR4, rfl, hh⟩
    obtain ⟨rfl, rfl, rfl⟩ := HR.out.det hR4
    obtain ⟨hro, hb4⟩ := hh.out
    have hB4 := HB3.out.trans (hb4.mono (by rw [Hb.out]; exact HB3.out.size))
    have HO4 := hid (HO3.out.kept (Kept.of_below hb4))
    have HP4 := hid (HP3.out.below hb4)
    have HRo := hid hro
    have HB4 := hid hB4
    have HA5 := hid (alive_any w4 (HE.out.below hB4 hb3'))
    clear hh hro hb4 hB4 hR4 HAl HO3 HP3 HB3
    go_wp2_with fail
    refine HA5.out.mono ?_; rintro e w5 ⟨rfl, hb5⟩
    have hb5' := hb5.out
    have hO5 := HO4.out.kept (Kept.of_below hb5')
    have hRo5 := HRo.out.kept (Kept.of_below hb5')
    have HSm := hid (same_any a p4 c c cap3 cap4 w5 hO5.cmds hRo5.cmds (by omega) HR.out.short)
    have HP5 := hid (HP4.out.below hb5')
    have HB5 := hid (HB4.out.trans (hb5'.mono (by rw [Hb.out]; exact HB4.out.size)))
    rw [decide_eq_true rfl] at HSm
    clear hb5 hb5' hO5 hRo5 HA5 HP4 HB4 HO4 HRo
    go_wp2_with fail
    refine HSm.out.mono ?_; rintro e w6 ⟨rfl, ⟨d, rfl⟩⟩
    have hb6 : Below w5.heap.size w5 (w5.drewN d) := below_drawn (Below.refl _ _) d
    have HL := hid (left_par b s' x (w5.drewN d) (HP5.out.below hb6))
    have HB6 : Hid (Below w.heap.size w (w5.drewN d)) := by
      have := below_drawn HB5.out d
      rwa [Hb.out] at this
    clear hb6 HSm HP5 HB5
    go_wp2_with fail
    refine HL.out.mono ?_; rintro e w7 ⟨rfl, rfl⟩
    go_wp2
    go_ret
    exact ⟨ret_bool (by simp), HB6.out⟩

end Go.Proofs.YtjcegiponjpjiaaDoor
