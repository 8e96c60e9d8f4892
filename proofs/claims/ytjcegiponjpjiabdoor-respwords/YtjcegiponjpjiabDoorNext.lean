/- Next: what a call tells, of a parser that has told no error, and of one that has. -/
import Derived.Test.YtjcegiponjpjiabDoorNext1
namespace Go.Proofs.YtjcegiponjpjiabDoor
open Go.RowKit

theorem wp_skip_seq {P : Program} {a : Act} {w : World} {Q : Exit → Act → World → Prop} {c : Code} (h : c.wp P Q a w) : (Code.seq .skip c).wp P Q a w := wp_seq (wp_skip h)
theorem out_weak {w : World} {b : Nat} {s0 : List UInt8} {n : Nat} : ∀ e a W, Out w b s0 n e a W → jumps (J w b s0) (bodyPost Tryd.prog Tryd.f12 fun r w' => NextPost w b s0 r w') e a W := by
  intro e a W h
  cases e with
  | goto l => exact h.1
  | normal => exact h
  | exit id => exact h
  | ret => exact h
  | panic ch => exact h
  | outgrown => exact h
set_option maxHeartbeats 2000000 in
set_option maxRecDepth 100000 in
theorem next_any (b : Nat) (s : List UInt8) (w : World) (hE : Envs w) (hb6 : 4 ≤ b) (hP : Par w b s 0) :
    Calls Tryd.prog 12 #[.pointer (some ⟨b, 0, none⟩)] w fun r w' => NextPost w b s r w' := by
  have hbB := hP.lt
  obtain ⟨v, h1, h2, h3⟩ := id hP
  obtain ⟨a, cap, rfl, q1, q2, q3⟩ := id h2
  have c0 := h1.cell0
  have c1 := h1.cell1
  have hat := h2.at.2.2
  have HP := hid hP
  have HQ := hid hat
  have HE := hid hE
  have hcap : (s.length : Int) ≤ (cap : Int) := by omega
  clear hP h1 h2 h3 hat hE q2 q3
  go_enter Tryd.func12, Tryd.ntmps12
  go_wp2
  refine wp_scope_any (J w b s) (fun l a _ => mu l a) ?_ ?_
  · go_wp2
    go_region
    all_goals go_wp2
    all_goals go_step3
    all_goals refine (‹∀ (a : Act) (w : World), Code.wp _ _ _ a w → _› _ _ ?_)
    all_goals refine wp_mono (seg1 w b s HE.out hb6 hbB _ _ _ rfl rfl (100 * s.length + 50) _ _ ?_ ?_) out_weak
    all_goals
      first
      | exact ⟨rfl, rfl, rfl, (Only.refl b w).drewN 1, ⟨s, s, a, _, HP.out.below (below_drawn (Below.refl _ _) 1), fun _ _ _ h => h, List.suffix_refl _, rfl, HQ.out, rfl, Args.nil _ _⟩⟩
      | exact Nat.le_refl (100 * s.length + 50)
  · rintro l a W hJ
    match l, hJ with
    | 0, hJ => exact ⟨_, rfl, seg0 w b s _ _ _ rfl rfl _ a W hJ⟩
    | 1, hJ => exact ⟨_, rfl, wp_skip_seq (seg1 w b s HE.out hb6 hbB _ _ _ rfl rfl _ a W hJ (Nat.le_refl _))⟩
    | 2, hJ => exact ⟨_, rfl, wp_skip_seq (seg2 w b s hbB _ _ _ rfl rfl _ a W hJ (Nat.le_refl _))⟩
    | 3, hJ => exact ⟨_, rfl, seg3 w b s hbB _ _ _ rfl rfl _ a W hJ (Nat.le_refl _)⟩
    | 4, hJ => exact ⟨_, rfl, wp_skip_seq (seg4 w b s hbB _ _ _ rfl rfl _ a W hJ (Nat.le_refl _))⟩
    | l + 5, hJ => exact hJ.lab.elim
set_option maxHeartbeats 2000000 in
set_option maxRecDepth 100000 in
/-- Next, of a parser that has told an error -/
theorem next_ill (b : Nat) (e : Int) (sa : Option Addr) (cap : Nat) (w : World) (h1 : Pars w b (.slice sa 0 cap) e) (he0 : e ≠ 0) (he1 : e ≠ -1) :
    Calls Tryd.prog 12 #[.pointer (some ⟨b, 0, none⟩)] w fun r w' => r = .returned (.tuple #[.slice none 0 0, .bool false, .int .i64 e]) ∧ Hid (Pars w' b (.slice none 0 0) e ∧ Only b w w') := by
  have c0 := h1.cell0
  have c1 := h1.cell1
  have H1 := hid h1
  have hne : (e != 0) = true := by simp [bne, he0]
  have hne2 : (e == 0) = false := beq_eq_false_iff_ne.2 he0
  clear h1
  go_enter Tryd.func12, Tryd.ntmps12
  go_wp2
  refine wp_scope_any (fun l a W => l = 0 ∧ a.defers = [] ∧ a.tmps.size = 98 ∧ a.tmps[0]? = some (.pointer (some ⟨b, 0, none⟩)) ∧ a.tmps[11]? = some (.int .i64 e) ∧ Only b w W ∧ Pars W b (.slice sa 0 cap) e) (fun _ _ _ => 0) ?_ ?_
  · go_wp2
    go_region
    all_goals go_wp2
    all_goals go_step3
    all_goals exact ⟨rfl, rfl, rfl, rfl, rfl, (Only.refl b w).drewN 1, H1.out⟩
  · rintro l a W ⟨rfl, hd, hsz, h0, h11, hO, hP⟩
    obtain ⟨t, d⟩ := a
    simp only at hd hsz h0 h11
    subst hd
    refine ⟨_, rfl, ?_⟩
    have HO := hid hO
    have HS := hid (stop_any b _ e e W hP he1)
    clear hO hP
    revert h0 h11
    revert hsz
    revert t
    refine lit98 ?_
    intro u0 u1 u2 u3 u4 u5 u6 u7 u8 u9 u10 u11 u12 u13 u14 u15 u16 u17 u18 u19 u20 u21 u22 u23 u24 u25 u26 u27 u28 u29 u30 u31 u32 u33 u34 u35 u36 u37 u38 u39 u40 u41 u42 u43 u44 u45 u46 u47 u48 u49 u50 u51 u52 u53 u54 u55 u56 u57 u58 u59 u60 u61 u62 u63 u64 u65 u66 u67 u68 u69 u70 u71 u72 u73 u74 u75 u76 u77 u78 u79 u80 u81 u82 u83 u84 u85 u86 u87 u88 u89 u90 u91 u92 u93 u94 u95 u96 u97 h0 h11
    obtain rfl : _ = u0 := (Option.some.inj h0).symm
    obtain rfl : _ = u11 := (Option.some.inj h11).symm
    clear h0 h11
    go_wp2_with fail
    refine HS.out.mono ?_; rintro r w' ⟨rfl, hp, ho⟩
    have HP2 := hid hp
    have HO2 := hid (HO.out.trans ho)
    clear hp ho HS
    go_wp2
    simp only [jumps]
    go_ret3
    exact ⟨rfl, HP2.out, HO2.out⟩

end Go.Proofs.YtjcegiponjpjiabDoor
