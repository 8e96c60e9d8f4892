/- The law RespPieces, walked. -/
import Derived.Test.YtjcegiponjpjiaaDoorPieces
import Derived.Test.YtjcegiponjpjiaaDoorLawReads
import Derived.Test.YtjcegiponjpjiaaDoorRefCommand
namespace Go.Proofs.YtjcegiponjpjiaaDoor
open Go.RowKit

set_option maxHeartbeats 2000000 in
set_option maxRecDepth 100000 in
theorem respPieces_walk (p : Option Addr) (l : List (List UInt8)) (cap : Nat) (w : World) (hE : Envs w) (hS : Strs w p l) (hx : ∀ x ∈ l, x.length ≤ maxLen) :
    Calls Tryd.prog 4 #[.slice p l.length cap] w fun e w' => e = .returned (.bool true) ∧ Below w.heap.size w w' := by
  have HN := hid (new_par w)
  have HE := hid hE
  have h3 := hE.room
  have HS := hid hS
  clear hE hS
  go_enter Tryd.func4, Tryd.ntmps4
  go_wp2_with fail
  refine HN.out.mono ?_; rintro e w1 ⟨rfl, hh⟩
  obtain ⟨hp1, hb1, hlt1⟩ := hh.out
  obtain ⟨b, hb⟩ : ∃ b, b = w.heap.size := ⟨_, rfl⟩
  rw [← hb] at hp1 hlt1 ⊢
  have Hb := hid hb
  clear hb hh HN
  by_cases hs : 200 < l.length
  · have HA := hid (alive_any w1 (HE.out.below hb1 h3))
    have HB := hid hb1
    have hz : (200 : Int) < (l.length : Int) := by omega
    clear hp1 hb1 hlt1
    go_wp2_with fail
    refine HA.out.mono ?_; rintro e w2 ⟨rfl, hb2⟩
    have HB2 := hid (HB.out.trans (hb2.out.mono HB.out.size))
    clear hb2
    go_wp2
    go_ret
    exact ⟨rfl, HB2.out⟩
  · have hz : ¬ ((200 : Int) < (l.length : Int)) := by omega
    have hb3' : 3 ≤ b := by rw [Hb.out]; exact h3
    have HP1 := hid hp1
    have HB1 : Hid (Below b w w1) := by rw [Hb.out]; exact hb1
    clear hp1 hb1 hlt1
    have HR0 : Hid (Runs [] [] [] 0) := .more (by kernel_rfl)
    go_wp2
    go_loopw [4, 5, 28] (fun v4 v5 v28 W => ∃ (k : Nat) (S : List UInt8) (c : List (List (List UInt8))) (s' : List UInt8) (e : Int), k ≤ l.length ∧ v28 = .int .i64 k ∧ v4 = .string ⟨S.toArray⟩ ∧ S.length ≤ 10000 ∧ Hid (Outs b W v5 c) ∧ Hid (Runs S c s' e) ∧ Hid (Par W b s' e) ∧ Hid (Below b w W)) (fun _ _ v28 _ => l.length - (intOf v28).toNat)
    case atStart => exact ⟨0, [], [], [], 0, Nat.zero_le _, rfl, rfl, by simp, Outs.nil _ _, HR0.out, HP1.out, HB1.out⟩
    case round =>
      obtain ⟨k, S, c, s', e, hk, rfl, rfl, hSl, HO, HR, HP, HB⟩ := hrel
      by_cases hlt : k < l.length
      · obtain ⟨b0, o0, rfl, hcell⟩ := HS.out (fun e => by rw [e] at hlt; simp at hlt)
        have hck : wr.cell? ⟨b0, o0 + k, none⟩ = some (.string ⟨l[k].toArray⟩) := by
          rw [HB.out.cell (by rw [Hb.out]; exact block_lt_of_cell (hcell k hlt))]; exact hcell k hlt
        have hxm := hx l[k] (List.getElem_mem hlt)
        generalize l[k] = x at hck hxm
        have hkz : (k : Int) < (l.length : Int) := by omega
        have hE1 := HE.out.below HB.out hb3'
        clear hcell
        by_cases hbig : 2000 < x.length ∨ 8000 < S.length
        · have HA := hid (alive_any wr hE1)
          have hb2 : ((2000 : Int) < (x.length : Int)) ∨ (¬ ((2000 : Int) < (x.length : Int)) ∧ (8000 : Int) < (S.length : Int)) := by omega
          clear hE1 HO HR HP
          rcases hb2 with h2 | ⟨h2, h8⟩
          all_goals
            go_wp2_with fail
            refine HA.out.mono ?_; rintro e w2 ⟨rfl, hb2⟩
            have HB2 : Hid (Below w.heap.size w w2) := by
              have := HB.out.trans (hb2.out.mono (by rw [Hb.out]; exact HB.out.size))
              rwa [Hb.out] at this
            clear hb2
            go_wp2
            go_ret
            exact ⟨rfl, HB2.out⟩
        · have h2 : ¬ ((2000 : Int) < (x.length : Int)) := by omega
          have h8 : ¬ ((8000 : Int) < (S.length : Int)) := by omega
          obtain ⟨capx, W1, hcv, hat, hbc, _, _⟩ := conv_bytes x wr
          obtain ⟨T, hT⟩ : ∃ T, T = S ++ x := ⟨_, rfl⟩
          have qT : ((⟨S.toArray⟩ : ByteArray) ++ ⟨x.toArray⟩) = ⟨T.toArray⟩ := by rw [hT]; exact bytes_append S x
          have hTl : T.length ≤ 10000 := by rw [hT, List.length_append]; omega
          have hTs : S.length + x.length ≤ 10000 := by omega
          obtain ⟨c2, s2, e2, hR2, hc2, hF⟩ := piece_step b S x T c s' e u5 W1 (some ⟨wr.heap.size, 0, none⟩) capx (hE1.below hbc (Nat.le_trans h3 (by have := HB.out.size; omega))) hb3' HR.out (HP.out.below hbc) (HO.out.kept (Kept.of_below hbc)) hat hT (by omega) (by omega)
          have HF := hid hF
          have HR2 := hid hR2
          have hBW : Below b w W1 := HB.out.trans (hbc.mono (by rw [Hb.out]; exact HB.out.size))
          have HBW := hid hBW
          have hcc := HR.out.left_le
          have HAl := hid fun W => rall_any T W (by omega)
          clear hF hR2 hBW hat hbc hE1 hT HO HR HP HB hbig
          go_wp2_with fail
          refine HF.out.mono ?_; rintro r w2 ⟨rfl, hA⟩
          go_wp2_with fail
          refine hA.out.mono ?_; rintro r w3 ⟨a3, cap3, rfl, hh⟩
          obtain ⟨ho3, hp3, hv3, hb3⟩ := hh.out
          have hB3 := HBW.out.trans hb3
          obtain ⟨v6, w4, hrun, ho4, hb4, hst4⟩ := push_cmds hv3 ho3 rfl (by have := hB3.size; rw [Hb.out]; exact this) (by omega)
          obtain ⟨a6, c6, rfl⟩ := ho4.shape
          have HRun := hid hrun
          have hp4 : Par w4 b s2 e2 := by
            obtain ⟨pv, hpv, _⟩ := id hp3
            exact hp3.still (fun g cur fr h0 => hst4 g cur fr _ (by decide) h0) ((hst4 b _ _ _ (by decide) hpv).trans hpv.symm)
          obtain ⟨C, hC⟩ : ∃ C, C = c ++ c2 := ⟨_, rfl⟩
          rw [← hC] at ho4
          have HR3 : Hid (Runs T C s2 e2) := by rw [hC]; exact HR2.out
          have hCl : C.length ≤ 100000 := by rw [hC, List.length_append]; omega
          rw [← hC] at HRun
          have HO4 := hid ho4
          have HP4 := hid hp4
          have HB4 := hid (hB3.trans hb4)
          clear hA hh ho3 hp3 hv3 hb3 hB3 hrun ho4 hb4 hst4 hp4 HF HBW hC HR2
          go_wp2_with (at_builtin; refine wpList_append_runs rfl _ _ 27 27 rfl _ _ _ _ rfl rfl HRun.out ?_)
          refine (HAl.out _).mono ?_; rintro r w5 ⟨c5, s5, e5, p5, cap5, hR5, rfl, hh⟩
          obtain ⟨rfl, rfl, rfl⟩ := HR3.out.det hR5
          obtain ⟨hro, hb5⟩ := hh.out
          have hO5 := HO4.out.kept (Kept.of_below hb5)
          have HSm := hid (same_any a6 p5 C C c6 cap5 w5 hO5.cmds hro.cmds (by omega) HR3.out.short)
          rw [decide_eq_true rfl] at HSm
          have HO5 := hid hO5
          have HP5 := hid (HP4.out.below hb5)
          have HB5 := hid (HB4.out.trans (hb5.mono (by rw [Hb.out]; exact HB4.out.size)))
          clear hh hro hb5 hR5 hO5 HO4 HP4 HB4 HRun HAl
          go_wp2_with fail
          refine HSm.out.mono ?_; rintro r w6 ⟨rfl, ⟨d, rfl⟩⟩
          have hb6 : Below w5.heap.size w5 (w5.drewN d) := below_drawn (Below.refl _ _) d
          have HP6 := hid (HP5.out.below hb6)
          have HL := hid (left_par b s2 e2 (w5.drewN d) (HP5.out.below hb6))
          have HO6 := hid (HO5.out.kept (Kept.of_below hb6))
          have HB6 := hid (below_drawn HB5.out d)
          clear hb6 HSm HP5 HB5 HO5
          go_wp2_with fail
          refine HL.out.mono ?_; rintro r w7 ⟨rfl, rfl⟩
          go_wp2
          exact ⟨⟨k + 1, T, C, s2, e2, by omega, by go_num, rfl, hTl, HO6.out, HR3.out, HP6.out, HB6.out⟩, by simp [intOf]; omega⟩
      · obtain rfl : k = l.length := by omega
        have HA := hid (alive_any wr (HE.out.below HB.out hb3'))
        clear HO HR HP
        go_wp2_with fail
        refine HA.out.mono ?_; rintro e w2 ⟨rfl, hb2⟩
        have HB2 : Hid (Below w.heap.size w w2) := by
          have := HB.out.trans (hb2.out.mono (by rw [Hb.out]; exact HB.out.size))
          rwa [Hb.out] at this
        clear hb2
        go_wp2
        go_ret
        exact ⟨rfl, HB2.out⟩

end Go.Proofs.YtjcegiponjpjiaaDoor
