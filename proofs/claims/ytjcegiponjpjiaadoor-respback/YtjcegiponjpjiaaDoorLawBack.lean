/- The law RespBack, walked. -/
import Derived.Test.YtjcegiponjpjiaaDoorOpenRows
import Derived.Test.YtjcegiponjpjiaaDoorWritten
import Derived.Test.YtjcegiponjpjiaaDoorShort
import Derived.Test.YtjcegiponjpjiaaDoorConv
namespace Go.Proofs.YtjcegiponjpjiaaDoor
open Go.RowKit

/-- does a command fit? -/
def fits (l : List (List UInt8)) : Prop := l ≠ [] ∧ l.length ≤ 32 ∧ ∀ x ∈ l, x.length ≤ 1024
/-- do the first i of a command's arguments fit, and their number? -/
def FitTo (V : Bool) (l : List (List UInt8)) (i : Nat) : Prop := V = true ↔ ((0 : Int) < (l.length : Int) ∧ (l.length : Int) ≤ 32) ∧ ∀ j (h : j < l.length), j < i → l[j].length ≤ 1024
set_option maxHeartbeats 2000000 in
set_option maxRecDepth 100000 in
theorem respBack_walk (p : Option Addr) (L : List (List (List UInt8))) (cap : Nat) (w : World) (hE : Env w ∧ Envs w) (hS : Cmds w p L) (hx : ∀ x ∈ L, x.length ≤ maxLen) :
    Calls Tryd.prog 7 #[.slice p L.length cap] w fun e w' => e = .returned (.bool true) ∧ Below w.heap.size w w' := by
  have HN := hid (new_par w)
  have HE := hid hE
  have h3 := hE.1.room
  have HS := hid hS
  clear hE hS
  go_enter Tryd.func7, Tryd.ntmps7
  go_wp2_with fail
  refine HN.out.mono ?_; rintro e w1 ⟨rfl, hh⟩
  obtain ⟨hp1, hb1, hlt1⟩ := hh.out
  obtain ⟨b, hb⟩ : ∃ b, b = w.heap.size := ⟨_, rfl⟩
  rw [← hb] at hp1 hlt1 ⊢
  have Hb := hid hb
  clear hb hh HN
  by_cases hs : 50 < L.length
  · have HA := hid (alive_any w1 (HE.out.2.below hb1 (by omega)))
    have HB := hid hb1
    have hz : (50 : Int) < (L.length : Int) := by omega
    clear hp1 hb1 hlt1
    go_wp2_with fail
    refine HA.out.mono ?_; rintro e w2 ⟨rfl, hb2⟩
    have HB2 := hid (HB.out.trans (hb2.out.mono HB.out.size))
    clear hb2
    go_wp2
    go_ret
    exact ⟨rfl, HB2.out⟩
  · have hz : ¬ ((50 : Int) < (L.length : Int)) := by omega
    have hb3' : 6 ≤ b := by rw [Hb.out]; exact h3
    have HP1 := hid hp1
    have HB1 : Hid (Below b w w1) := by rw [Hb.out]; exact hb1
    clear hp1 hb1 hlt1
    go_wp2
    go_loopw [4, 27] (fun v4 v27 W => ∃ (k : Nat) (F : List (List (List UInt8))), k ≤ L.length ∧ v27 = .int .i64 k ∧ F.length ≤ k ∧ Hid (∀ l ∈ F, fits l) ∧ Hid (((F.map cmd).flatten).length ≤ 100000 * k) ∧ Hid (Wants b w W v4 F) ∧ Hid (Par W b ((F.map cmd).flatten) 0) ∧ Hid (Below b w W)) (fun _ v27 _ => L.length - (intOf v27).toNat)
    case atStart => exact ⟨0, [], Nat.zero_le _, rfl, Nat.le_refl _, (fun l h => by cases h), by simp [Hid], Wants.nil _ _ _, HP1.out, HB1.out⟩
    case round =>
      obtain ⟨k, F, hk, rfl, hFk, HFit, HFl, HW, HP, HB⟩ := hrel
      by_cases hlt : k < L.length
      · obtain ⟨b0, o0, rfl, hcell⟩ := HS.out (fun e => by rw [e] at hlt; simp at hlt)
        obtain ⟨q, c, hck0, hsq⟩ := hcell k hlt
        have hck : wr.cell? ⟨b0, o0 + k, none⟩ = some (.slice q L[k].length c) := by
          rw [HB.out.cell (by rw [Hb.out]; exact block_lt_of_cell hck0)]; exact hck0
        have hlm := hx L[k] (List.getElem_mem hlt)
        unfold maxLen at hlm
        generalize L[k] = l at hck hsq hlm
        have HSq : Hid (Strs w q l) := hsq
        have hkz : (k : Int) < (L.length : Int) := by omega
        clear hcell hck0 hsq
        have hway : (∃ V0, V0 = true ∧ (0 : Int) < (l.length : Int) ∧ (l.length : Int) ≤ 32) ∨ (∃ V0, V0 = false ∧ ¬ ((0 : Int) < (l.length : Int))) ∨ (∃ V0, V0 = false ∧ (0 : Int) < (l.length : Int) ∧ ¬ ((l.length : Int) ≤ 32)) := by
          by_cases h1 : 0 < l.length
          · by_cases h2 : l.length ≤ 32
            · exact .inl ⟨true, rfl, by omega, by omega⟩
            · exact .inr (.inr ⟨false, rfl, by omega, by omega⟩)
          · exact .inr (.inl ⟨false, rfl, by omega⟩)
        have HV0 : Hid ((0 : Int) < (l.length : Int) ∧ (l.length : Int) ≤ 32 ∨ ¬ ((0 : Int) < (l.length : Int) ∧ (l.length : Int) ≤ 32)) := Classical.em _
        rcases hway with ⟨V0, hV0, hw1, hw2⟩ | ⟨V0, hV0, hw1⟩ | ⟨V0, hV0, hw1, hw2⟩
        all_goals
          have hv1 : V0 = true ↔ (0 : Int) < (l.length : Int) ∧ (l.length : Int) ≤ 32 := by rw [hV0]; simp; try omega
          have HV : Hid (FitTo V0 l 0) := ⟨fun h => ⟨hv1.1 h, fun j _ hj => absurd hj (Nat.not_lt_zero _)⟩, fun h => hv1.2 h.1⟩
          clear hv1
          subst hV0
          go_wp2
          go_loopw [7, 41] (fun v7 v41 W => ∃ (i : Nat) (V : Bool), i ≤ l.length ∧ v41 = .int .i64 i ∧ v7 = .bool V ∧ Hid (Wants b w W u4 F) ∧ Hid (Par W b ((F.map cmd).flatten) 0) ∧ Hid (Below b w W) ∧ Hid (FitTo V l i)) (fun _ v41 _ => l.length - (intOf v41).toNat)
          case atStart => exact ⟨0, _, Nat.zero_le _, rfl, rfl, HW.out, HP.out, HB.out, HV.out⟩
          case round =>
            obtain ⟨i, V, hi, rfl, rfl, HWi, HPi, HBi, HVi⟩ := hrel
            by_cases hil : i < l.length
            · first
              | (exfalso; omega)
              | (obtain ⟨bq, oq, rfl, hcq⟩ := HSq.out (fun e => by rw [e] at hil; simp at hil)
                 have hcs : wr.cell? ⟨bq, oq + i, none⟩ = some (.string ⟨l[i].toArray⟩) := by
                   rw [HBi.out.cell (by rw [Hb.out]; exact block_lt_of_cell (hcq i hil))]; exact hcq i hil
                 have HNx : Hid (∀ V2 : Bool, (V2 = true ↔ V = true ∧ l[i].length ≤ 1024) → FitTo V2 l (i + 1)) := fun V2 h2 => by
                   have hvi := HVi.out
                   unfold FitTo at hvi ⊢
                   rw [h2, hvi]
                   constructor
                   · rintro ⟨⟨h3, h4⟩, h5⟩
                     refine ⟨h3, fun j hj hji => ?_⟩
                     rcases Nat.lt_or_ge j i with h | h
                     · exact h4 j hj h
                     · obtain rfl : j = i := by omega
                       exact h5
                   · rintro ⟨h3, h4⟩
                     exact ⟨⟨h3, fun j hj hji => h4 j hj (by omega)⟩, h4 i hil (by omega)⟩
                 generalize l[i] = x at hcs HNx
                 have hiz : (i : Int) < (l.length : Int) := by omega
                 clear hcq HVi
                 cases V
                 · have HN2 := hid (HNx.out false (by simp))
                   clear HNx
                   go_wp2
                   refine ⟨⟨i + 1, false, Nat.succ_le_of_lt hil, ?_, rfl, HWi.out, HPi.out, HBi.out, HN2.out⟩, ?_⟩
                   · go_num
                   · simp [intOf]; omega
                 · by_cases h1024 : x.length ≤ 1024
                   · have HN2 := hid (HNx.out true (by simp [h1024]))
                     have hxz : (x.length : Int) ≤ 1024 := by omega
                     clear HNx
                     go_wp2
                     refine ⟨⟨i + 1, true, Nat.succ_le_of_lt hil, ?_, rfl, HWi.out, HPi.out, HBi.out, HN2.out⟩, ?_⟩
                     · go_num
                     · simp [intOf]; omega
                   · have HN2 := hid (HNx.out false (by simp [h1024]))
                     have hxz : ¬ ((x.length : Int) ≤ 1024) := by omega
                     clear HNx
                     go_wp2
                     refine ⟨⟨i + 1, false, Nat.succ_le_of_lt hil, ?_, rfl, HWi.out, HPi.out, HBi.out, HN2.out⟩, ?_⟩
                     · go_num
                     · simp [intOf]; omega)
            · obtain rfl : i = l.length := by omega
              have hiz : ¬ ((l.length : Int) < (l.length : Int)) := by omega
              cases V
              · have HFl2 : Hid (((F.map cmd).flatten).length ≤ 100000 * (k + 1)) := by have := HFl.out; unfold Hid; omega
                clear HVi HFl
                go_wp2
                exact ⟨⟨k + 1, F, by omega, by go_num, by omega, HFit.out, HFl2.out, HWi.out, HPi.out, HBi.out⟩, by simp [intOf]; omega⟩
              · have hfit : fits l := by
                  obtain ⟨h1, h2⟩ := HVi.out.1 rfl
                  refine ⟨fun e => by rw [e] at h1; simp at h1, by omega, fun x hx => ?_⟩
                  obtain ⟨j, hj, rfl⟩ := List.getElem_of_mem hx
                  exact h2 j hj hj
                have hcl := cmd_fits l hfit.2.1 hfit.2.2
                have hSw := HSq.out.below (HBi.out.mono (Nat.le_of_eq Hb.out.symm)) (Nat.le_refl _)
                have HC := hid (command_any q l c wr (HE.out.1.below HBi.out hb3') hSw (by omega) (by have := hfit.2.1; omega))
                have HFit2 : Hid (∀ m ∈ F ++ [l], fits m) := fun m hm => by
                  rcases List.mem_append.1 hm with hm | hm
                  · exact HFit.out m hm
                  · rw [List.mem_singleton] at hm; rw [hm]; exact hfit
                obtain ⟨X, hX⟩ : ∃ X, X = cmd l := ⟨_, rfl⟩
                rw [← hX] at HC hcl
                have HX := hid hX
                clear hfit hSw HVi hX
                go_wp2_with fail
                refine HC.out.mono ?_; rintro r w2 ⟨rfl, hb2⟩
                obtain ⟨capx, W2, hcv, hat, hbc, _, _⟩ := conv_bytes X w2
                have hFl := HFl.out
                have HF := hid (feed_par b ((F.map cmd).flatten) X (some ⟨w2.heap.size, 0, none⟩) capx W2 ((HPi.out.below hb2).below hbc) hat (by omega))
                have HW2 := hid ((HWi.out.kept (Kept.of_below hb2)).kept (Kept.of_below hbc))
                have HB2 := hid ((HBi.out.trans (hb2.mono (by rw [Hb.out]; exact HBi.out.size))).trans (hbc.mono (by have := HBi.out.size; have := hb2.size; have := Hb.out; omega)))
                clear hb2 hat hbc HC hFl
                go_wp2_with fail
                refine HF.out.mono ?_; rintro r w3 ⟨rfl, hh⟩
                obtain ⟨hp3, hf3⟩ := hh.out
                have hB3 := HB2.out.trans (hf3.below b (Nat.le_refl _))
                obtain ⟨v6, w4, hrun, ho4, hb4, hst4⟩ := push_want (c := c) (HW2.out.kept hf3.kept) HSq.out (by have := hB3.size; rw [Hb.out]; exact this) (by omega)
                have hp4 : Par w4 b ((F.map cmd).flatten ++ X) 0 := by
                  obtain ⟨pv, hpv, _⟩ := id hp3
                  exact hp3.still (fun g cur fr h0 => hst4 g cur fr _ (by decide) h0) ((hst4 b _ _ _ (by decide) hpv).trans hpv.symm)
                have hfl : ((F ++ [l]).map cmd).flatten = (F.map cmd).flatten ++ X := by rw [HX.out]; simp
                rw [← hfl] at hp4
                have HFl2 : Hid ((((F ++ [l]).map cmd).flatten).length ≤ 100000 * (k + 1)) := by have := HFl.out; unfold Hid; rw [hfl, List.length_append]; omega
                have HRun := hid hrun
                have HO4 := hid ho4
                have HP4 := hid hp4
                have HB4 := hid (hB3.trans hb4)
                have HF4 : Hid ((F ++ [l]).length ≤ k + 1) := by unfold Hid; simp; omega
                clear hh hp3 hf3 hB3 hrun ho4 hb4 hst4 hp4 hfl HF HW2 HB2
                go_wp2_with (at_builtin; refine wpList_append_runs rfl _ _ 27 27 rfl _ _ _ _ rfl rfl HRun.out ?_)
                exact ⟨⟨k + 1, F ++ [l], by omega, by go_num, HF4.out, HFit2.out, HFl2.out, HO4.out, HP4.out, HB4.out⟩, by simp [intOf]; omega⟩
      · obtain rfl : k = L.length := by omega
        obtain ⟨p4, c4, rfl⟩ := HW.out.shape
        have hR := runs_cmds F fun m hm => HFit.out m hm
        have HA : Hid (Calls Tryd.prog 12 #[.pointer (some ⟨b, 0, none⟩), .int .i64 ((L.length : Int) + 1)] wr fun r w' => ∃ a cap, r = .returned (.tuple #[.slice a F.length cap, .int .i64 0]) ∧ Hid (Outs wr.heap.size w' (.slice a F.length cap) F ∧ Par w' b [] 0 ∧ Only b wr w')) := by
          have h := all_any b ((F.map cmd).flatten) [] F 0 (L.length + 1) wr (HE.out.2.below HB.out (by omega)) (by omega) HP.out hR (by omega) (by omega) (by omega)
          have e : ((L.length + 1 : Nat) : Int) = (L.length : Int) + 1 := by omega
          rw [e] at h
          exact h
        have HSh := hid hR.short
        have hPv := HP.out
        obtain ⟨pv, hpv, _⟩ := hPv
        have HPv := hid hpv
        clear hR hpv HFl HP
        go_wp2_with fail
        refine HA.out.mono ?_; rintro r w3 ⟨a3, cap3, rfl, hh⟩
        obtain ⟨ho3, _, hon3⟩ := hh.out
        have hb3 : Below b w w3 := HB.out.trans (hon3.below (Nat.le_refl _) (by rw [Hb.out]; exact HB.out.size))
        have HW3 := hid (HW.out.kept (Kept.of_only HPv.out hon3))
        have HO3 := hid ho3
        have HB3 := hid hb3
        have HA5 := hid (alive_any w3 (HE.out.2.below hb3 (by omega)))
        clear hh ho3 hon3 hb3 HA HB HW HPv
        go_wp2_with fail
        refine HA5.out.mono ?_; rintro r w5 ⟨rfl, hb5⟩
        have hb5' := hb5.out
        have hB5 : Below w.heap.size w w5 := by
          have := HB3.out.trans (hb5'.mono (by rw [Hb.out]; exact HB3.out.size))
          rwa [Hb.out] at this
        have HSm := hid (same_any a3 p4 F F cap3 c4 w5 (HO3.out.kept (Kept.of_below hb5')).cmds ((HW3.out.kept (Kept.of_below hb5')).cmds hB5) (by omega) HSh.out)
        rw [decide_eq_true rfl] at HSm
        have HB5 := hid hB5
        clear hb5 hb5' hB5 HA5 HO3 HW3 HB3
        go_wp2_with fail
        refine HSm.out.mono ?_; rintro r w6 ⟨rfl, ⟨d, rfl⟩⟩
        have HB6 := hid (below_drawn HB5.out d)
        clear HSm HB5
        go_wp2
        go_ret
        exact ⟨rfl, HB6.out⟩

end Go.Proofs.YtjcegiponjpjiaaDoor
