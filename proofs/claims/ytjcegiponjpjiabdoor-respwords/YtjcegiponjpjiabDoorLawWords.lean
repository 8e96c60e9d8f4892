/- The law RespWords, walked. -/
import Derived.Test.YtjcegiponjpjiabDoorFeedNew
import Derived.Test.YtjcegiponjpjiabDoorJoined
import Derived.Test.YtjcegiponjpjiabDoorWritten
import Derived.Test.YtjcegiponjpjiabDoorShort
namespace Go.Proofs.YtjcegiponjpjiabDoor
open Go.RowKit

theorem Par.other {w w' : World} {b b2 : Nat} {s : List UInt8} {e e2 : Int} {v2 : Value} (h : Par w b s e) (h2 : Pars w b2 v2 e2) (hne : b ≠ b2) (hO : Only b2 w w') : Par w' b s e := by
  obtain ⟨v, h1, hs, h3⟩ := h
  refine ⟨v, (hO.block b h1.lt hne).trans h1, ?_, h3⟩
  obtain ⟨a, cap, rfl, q1, q2, q3⟩ := hs
  refine ⟨a, cap, rfl, q1, q2, ?_⟩
  rcases q3 with q3 | ⟨g, off, cur, rfl, hg, r⟩
  · exact .inl q3
  · refine .inr ⟨g, off, cur, rfl, (hO.block g (Array.getElem?_eq_some_iff.1 hg).1 fun e => ?_).trans hg, r⟩
    subst e
    unfold Pars at h2
    rw [h2] at hg
    injection hg with hg
    injection hg with _ hg
    exact absurd hg (by decide)
set_option maxHeartbeats 2000000 in
set_option maxRecDepth 100000 in
theorem respWords_walk (p : Option Addr) (l : List (List UInt8)) (cap : Nat) (w : World) (hE : Env w ∧ Envs w) (hS : Strs w p l) (hx : ∀ x ∈ l, x.length ≤ maxLen) :
    Calls Tryd.prog 3 #[.slice p l.length cap] w fun e w' => e = .returned (.bool true) ∧ Below w.heap.size w w' := by
  have HN := hid fun w => new_any w
  have HE := hid hE
  have h6 := hE.1.room
  have HS := hid hS
  clear hE hS
  go_enter Tryd.func3, Tryd.ntmps3
  go_wp2_with fail
  refine (HN.out w).mono ?_; rintro e w1 ⟨rfl, hw1⟩
  have HW1 := hid hw1
  clear hw1
  go_wp2_with fail
  refine (HN.out w1).mono ?_; rintro e w2 ⟨rfl, hw2⟩
  have hw1 := HW1.out
  clear HW1
  have hl1 : w1.heap.size = w.heap.size + 1 := by rw [hw1]; simp
  have hl2 : w2.heap.size = w.heap.size + 2 := by rw [hw2]; simp; omega
  have hp1 : Pars w2 w.heap.size (.slice none 0 0) 0 := by rw [hw2]; exact (heap_alloc_old w1 _ (by omega)).trans (by rw [hw1]; exact heap_alloc_new w _)
  have hp2 : Pars w2 w1.heap.size (.slice none 0 0) 0 := by rw [hw2]; exact heap_alloc_new w1 _
  have hb2 : Below w.heap.size w w2 := by rw [hw2, hw1]; exact (below_alloc w _).alloc (by simp) _
  obtain ⟨b1, hb1⟩ : ∃ b1, b1 = w.heap.size := ⟨_, rfl⟩
  obtain ⟨b2, hbb2⟩ : ∃ b2, b2 = w1.heap.size := ⟨_, rfl⟩
  rw [← hb1] at hp1
  rw [← hbb2] at hp2
  rw [← hb1, ← hbb2]
  have HP1 := hid hp1
  have HP2 := hid hp2
  have HB2 := hid hb2
  have Hbs : Hid (b1 = w.heap.size ∧ b2 = w.heap.size + 1 ∧ w2.heap.size = w.heap.size + 2) := ⟨hb1, by omega, hl2⟩
  clear hw1 hw2 hl1 hl2 hp1 hp2 hb2 hb1 hbb2 HN
  by_cases hs : 32 < l.length
  · have HA := hid (alive_any w2 (HE.out.2.below HB2.out (by omega)))
    have hz : (32 : Int) < (l.length : Int) := by omega
    go_wp2_with fail
    refine HA.out.mono ?_; rintro e w3 ⟨rfl, hb3⟩
    have HB3 := hid (HB2.out.trans (hb3.out.mono HB2.out.size))
    clear hb3
    go_wp2
    go_ret
    exact ⟨rfl, HB3.out⟩
  · have hz : ¬ ((32 : Int) < (l.length : Int)) := by omega
    go_wp2
    go_loopw [5, 38] (fun v5 v38 W => ∃ (k : Nat) (S : List UInt8), k ≤ l.length ∧ v38 = .int .i64 k ∧ v5 = .string ⟨S.toArray⟩ ∧ S.length ≤ 470 ∧ Hid (S = joined (l.take k)) ∧ Hid (∀ x ∈ l.take k, word x ∧ x.length ≤ 60) ∧ Hid (Below w2.heap.size w2 W)) (fun _ v38 _ => l.length - (intOf v38).toNat)
    case atStart => exact ⟨0, [], Nat.zero_le _, rfl, rfl, by simp, rfl, (fun x h => by simp at h), Below.refl _ _⟩
    case round =>
      obtain ⟨k, S, hk, rfl, rfl, hSl, HSj, HWd, HB⟩ := hrel
      have hBw : Below w.heap.size w wr := HB2.out.trans (HB.out.mono HB2.out.size)
      by_cases hlt : k < l.length
      · obtain ⟨b0, o0, rfl, hcell⟩ := HS.out (fun e => by rw [e] at hlt; simp at hlt)
        have hck : wr.cell? ⟨b0, o0 + k, none⟩ = some (.string ⟨l[k].toArray⟩) := by
          rw [hBw.cell (block_lt_of_cell (hcell k hlt))]; exact hcell k hlt
        have hxm := hx l[k] (List.getElem_mem hlt)
        have htk := List.take_succ_eq_append_getElem hlt
        generalize l[k] = x at hck hxm htk
        unfold maxLen at hxm
        have hkz : (k : Int) < (l.length : Int) := by omega
        obtain ⟨capx, W1, hcv, hat, hbc, hcapx, _⟩ := conv_bytes x wr
        have hB1 := HB.out.trans (hbc.mono HB.out.size)
        have HAt := hid hat
        have HB1 := hid hB1
        have HTk := hid htk
        have HBw1 := hid (HB2.out.trans (hB1.mono HB2.out.size))
        obtain ⟨qB, hqB⟩ : ∃ qB, qB = wr.heap.size := ⟨_, rfl⟩
        rw [← hqB] at hcv HAt
        clear hat hbc hB1 hcell htk hBw hqB
        go_wp2
        go_loopw [45] (fun v45 W => ∃ i : Nat, i ≤ x.length ∧ v45 = .int .i64 i ∧ Hid (∀ j (h : j < x.length), j < i → 32 < x[j].toNat ∧ x[j] ≠ 42) ∧ Hid (At W (some ⟨qB, 0, none⟩) x) ∧ Hid (Below w2.heap.size w2 W) ∧ Hid (Below w.heap.size w W)) (fun v45 _ => x.length - (intOf v45).toNat)
        case atStart => exact ⟨0, Nat.zero_le _, rfl, (fun j _ h => absurd h (Nat.not_lt_zero _)), HAt.out, HB1.out, HBw1.out⟩
        case round =>
          obtain ⟨i, hi, rfl, HG, HAi, HB1i, HBi⟩ := hrel
          have HA := hid (alive_any wr (HE.out.2.below HBi.out (by omega)))
          by_cases hil : i < x.length
          · obtain ⟨bq, oq, e, hcq, _⟩ := HAi.out (fun e => by rw [e] at hil; simp at hil)
            injection e with e
            injection e with e1 e2
            subst e1
            subst e2
            have hci := hcq i hil
            rw [Nat.zero_add] at hci
            obtain ⟨z, hz0⟩ : ∃ z : Int, z = (x[i].toNat : Int) := ⟨_, rfl⟩
            rw [← hz0] at hci
            have hiz : (i : Int) < (x.length : Int) := by omega
            have HNx : Hid (32 < z → z ≠ 42 → ∀ j (h : j < x.length), j < i + 1 → 32 < x[j].toNat ∧ x[j] ≠ 42) := fun h1 h2 j hj hji => by
              rcases Nat.lt_or_ge j i with h | h
              · exact HG.out j hj h
              · obtain rfl : j = i := by omega
                exact ⟨by omega, fun e => h2 (by rw [hz0, e]; rfl)⟩
            clear hcq hz0 HG
            by_cases h32 : z ≤ 32
            · go_wp2_with fail
              refine HA.out.mono ?_; rintro e w3 ⟨rfl, hb3⟩
              have HB3 := hid (HBi.out.trans (hb3.out.mono HBi.out.size))
              clear hb3
              go_wp2
              go_ret
              exact ⟨rfl, HB3.out⟩
            · by_cases h42 : z = 42
              · subst h42
                go_wp2_with fail
                refine HA.out.mono ?_; rintro e w3 ⟨rfl, hb3⟩
                have HB3 := hid (HBi.out.trans (hb3.out.mono HBi.out.size))
                clear hb3
                go_wp2
                go_ret
                exact ⟨rfl, HB3.out⟩
              · have h42' : (z == 42) = false := beq_eq_false_iff_ne.2 h42
                have HN2 := hid (HNx.out (by omega) h42)
                clear HNx HA
                go_wp2
                refine ⟨⟨i + 1, Nat.succ_le_of_lt hil, ?_, HN2.out, HAi.out, HB1i.out, HBi.out⟩, ?_⟩
                · go_num
                · simp [intOf]; omega
          · obtain rfl : i = x.length := by omega
            have hiz : ¬ ((x.length : Int) < (x.length : Int)) := by omega
            by_cases h60 : 60 < x.length
            · have h60z : (60 : Int) < (x.length : Int) := by omega
              go_wp2_with fail
              refine HA.out.mono ?_; rintro e w3 ⟨rfl, hb3⟩
              have HB3 := hid (HBi.out.trans (hb3.out.mono HBi.out.size))
              clear hb3
              go_wp2
              go_ret
              exact ⟨rfl, HB3.out⟩
            · have h60z : ¬ ((60 : Int) < (x.length : Int)) := by omega
              by_cases hx0 : x = []
              · subst hx0
                go_wp2_with fail
                refine HA.out.mono ?_; rintro e w3 ⟨rfl, hb3⟩
                have HB3 := hid (HBi.out.trans (hb3.out.mono HBi.out.size))
                clear hb3
                go_wp2
                go_ret
                exact ⟨rfl, HB3.out⟩
              · have hie : x.isEmpty = false := by cases x with | nil => exact absurd rfl hx0 | cons c r => rfl
                by_cases h400 : 400 < S.length
                · have h400z : (400 : Int) < (S.length : Int) := by omega
                  go_wp2_with fail
                  refine HA.out.mono ?_; rintro e w3 ⟨rfl, hb3⟩
                  have HB3 := hid (HBi.out.trans (hb3.out.mono HBi.out.size))
                  clear hb3
                  go_wp2
                  go_ret
                  exact ⟨rfl, HB3.out⟩
                · have h400z : ¬ ((400 : Int) < (S.length : Int)) := by omega
                  obtain ⟨T1, hT1⟩ : ∃ T1, T1 = x ++ [32] := ⟨_, rfl⟩
                  obtain ⟨T, hT⟩ : ∃ T, T = S ++ T1 := ⟨_, rfl⟩
                  have q1 : ((⟨x.toArray⟩ : ByteArray) ++ ⟨#[32]⟩) = ⟨T1.toArray⟩ := by rw [hT1]; exact bytes_append x [32]
                  have q2 : ((⟨S.toArray⟩ : ByteArray) ++ ⟨T1.toArray⟩) = ⟨T.toArray⟩ := by rw [hT]; exact bytes_append S T1
                  have g1 : T1.length ≤ 61 := by rw [hT1]; simp; omega
                  have g2 : T.length ≤ 470 := by rw [hT, List.length_append]; omega
                  have g3 : S.length + T1.length ≤ 470 := by omega
                  have HSj2 : Hid (T = joined (l.take (k + 1))) := by rw [HTk.out, joined_snoc, ← HSj.out, hT, hT1]; rfl
                  have HWd2 : Hid (∀ y ∈ l.take (k + 1), word y ∧ y.length ≤ 60) := fun y hy => by
                    rw [HTk.out] at hy
                    rcases List.mem_append.1 hy with hy | hy
                    · exact HWd.out y hy
                    · rw [List.mem_singleton] at hy
                      subst hy
                      refine ⟨⟨hx0, fun c hc => ?_⟩, by omega⟩
                      obtain ⟨j, hj, rfl⟩ := List.getElem_of_mem hc
                      exact HG.out j hj hj
                  clear hT1 hT HA
                  go_wp2
                  refine ⟨⟨k + 1, T, Nat.succ_le_of_lt hlt, ?_, rfl, g2, HSj2.out, HWd2.out, HB1i.out⟩, ?_⟩
                  · go_num
                  · simp [intOf]; omega
      · obtain rfl : k = l.length := by omega
        have hSj := HSj.out
        have hWd := HWd.out
        rw [List.take_length] at hSj hWd
        obtain ⟨T, hT⟩ : ∃ T, T = S ++ [13, 10] := ⟨_, rfl⟩
        have q1 : ((⟨S.toArray⟩ : ByteArray) ++ ⟨#[13, 10]⟩) = ⟨T.toArray⟩ := by rw [hT]; exact bytes_append S [13, 10]
        have g1 : S.length + 2 ≤ 480 := by omega
        have hTl : T.length ≤ 480 := by rw [hT]; simp; omega
        obtain ⟨C, hC⟩ : ∃ C, C = if l = [] then [] else [l] := ⟨_, rfl⟩
        have hR1 : Runs T C [] 0 := by rw [hT, hSj, hC]; exact runs_joined l (fun y hy => (hWd y hy).1) (by rw [← hSj]; omega) (by omega)
        have hR2 : Runs (cmd l) C [] 0 := by
          have h1 := one_cmd l [] (by omega) (fun y hy => by have := (hWd y hy).2; omega)
          rw [List.append_nil] at h1
          have h0 : one [] = .stop (-1) := by kernel_rfl
          rw [hC]
          by_cases e : l = []
          · rw [if_pos e]; subst e; exact .skip h1 (.more h0)
          · rw [if_neg e]; exact .some h1 e (.more h0)
        have hCl : C.length < 2 := by rw [hC]; split <;> simp
        have hcmd : (cmd l).length ≤ 100000 := by
          have h1 : ∀ m : List (List UInt8), (∀ y ∈ m, y.length ≤ 60) → ((m.map item).flatten).length ≤ 2000 * m.length := by
            intro m
            induction m with
            | nil => intro _; simp
            | cons y m ih =>
              intro hm
              have h2 := ih (fun z hz => hm z (by simp [hz]))
              have h5 := hm y (by simp)
              have h3 := dec_short y.length (by omega)
              rw [List.map_cons, List.flatten_cons, List.length_append, List.length_cons]
              have h4 : (item y).length = 1 + (dec y.length).length + 2 + y.length + 2 := by simp [item]; omega
              omega
          have h2 := h1 l (fun y hy => (hWd y hy).2)
          have h3 := dec_short l.length (by omega)
          unfold cmd cmdTo
          rw [List.take_length]
          simp only [List.length_append, List.length_cons, List.length_nil]
          omega
        have hways : (C.length = 1 ∧ 0 < l.length) ∨ (C.length = 0 ∧ l.length = 0) := by
          rw [hC]
          by_cases e : l = []
          · subst e; exact .inr ⟨rfl, rfl⟩
          · rw [if_neg e]; exact .inl ⟨rfl, List.length_pos_iff.2 e⟩
        have HR1 := hid hR1
        have HR2 := hid hR2
        have HWy := hid hways
        have HCm := hid hcmd
        obtain ⟨h1b, h2b, h2s⟩ := Hbs.out
        obtain ⟨cap1, W1, hcv1, hat1, hbc1, _, _⟩ := conv_bytes T wr
        have hP1 := (HP1.out.below HB.out).below hbc1
        have HF1 := hid (feed_new b1 T (some ⟨wr.heap.size, 0, none⟩) cap1 W1 hP1 hat1 (by omega))
        have HP2a := hid ((HP2.out.below HB.out).below hbc1)
        have hbW1 : Below w.heap.size w W1 := hBw.trans (hbc1.mono hBw.size)
        have HBW1 := hid hbW1
        have hsz1 : b1 < b2 ∧ b2 < W1.heap.size := ⟨by omega, HP2a.out.lt⟩
        clear hT hR1 hR2 hways hcmd hC hSj hWd hat1 hbc1 hP1 hbW1 hBw HSj HWd HB hCl h1b h2b h2s
        go_wp2_with fail
        refine HF1.out.mono ?_; rintro r w4 ⟨rfl, hh⟩
        obtain ⟨v4, hpv4, hs4, hn4, ho4⟩ := hh.out
        have hP4 : Par w4 b1 T 0 := ⟨v4, hpv4, hs4, fun a n c e => by have := hn4 a n c e; omega⟩
        have hQ4 : Pars w4 b2 (.slice none 0 0) 0 := (ho4.block b2 hsz1.2 (by omega)).trans HP2a.out
        have hB4 : Below w.heap.size w w4 := HBW1.out.trans (ho4.below (Nat.le_of_eq Hbs.out.1.symm) HBW1.out.size)
        have HC := hid (command_any p l cap w4 (HE.out.1.below hB4 h6) (HS.out.below hB4 (Nat.le_refl _)) (by have := HCm.out; omega) (by omega))
        have HP4 := hid hP4
        have HQ4 := hid hQ4
        have HB4 := hid hB4
        clear hh hpv4 hs4 hn4 ho4 hP4 hQ4 hB4 HF1 HP2a HBW1
        obtain ⟨X, hX⟩ : ∃ X, X = cmd l := ⟨_, rfl⟩
        rw [← hX] at HC HR2 HCm
        clear hX
        go_wp2_with fail
        refine HC.out.mono ?_; rintro r w5 ⟨rfl, hb5⟩
        obtain ⟨cap5, W5, hcv5, hat5, hbc5, _, _⟩ := conv_bytes X w5
        have HF2 := hid (feed_new b2 X (some ⟨w5.heap.size, 0, none⟩) cap5 W5 ((HQ4.out.below hb5).below hbc5) hat5 (by have := HCm.out; omega))
        have HP5 := hid ((HP4.out.below hb5).below hbc5)
        have HQ5 := hid ((HQ4.out.below hb5).below hbc5)
        have HB5 := hid ((HB4.out.trans (hb5.mono HB4.out.size)).trans (hbc5.mono (Nat.le_trans HB4.out.size hb5.size)))
        clear hb5 hat5 hbc5 HC HP4 HQ4 HB4
        go_wp2_with fail
        refine HF2.out.mono ?_; rintro r w6 ⟨rfl, hh⟩
        obtain ⟨v6, hpv6, hs6, hn6, ho6⟩ := hh.out
        have hlb2 := HQ5.out.lt
        have hP6 : Par w6 b1 T 0 := HP5.out.other HQ5.out (by omega) ho6
        have hQ6 : Par w6 b2 X 0 := ⟨v6, hpv6, hs6, fun a n c e => by have := hn6 a n c e; omega⟩
        have hB6 : Below w.heap.size w w6 := HB5.out.trans (ho6.below (by have := Hbs.out; omega) HB5.out.size)
        have HA1 := hid (all_any b1 T [] C 0 2 w6 (HE.out.2.below hB6 (by omega)) (by have := Hbs.out; omega) hP6 HR1.out (by have := HWy.out; omega) (by have := HWy.out; omega) (by decide))
        have HP6 := hid hP6
        have HQ6 := hid hQ6
        have HB6 := hid hB6
        clear hh hpv6 hs6 hn6 ho6 hlb2 hP6 hQ6 hB6 HF2 HP5 HQ5 HB5
        go_wp2_with fail
        refine HA1.out.mono ?_; rintro r w7 ⟨a7, cap7, rfl, hh⟩
        obtain ⟨ho7, _, hon7⟩ := hh.out
        obtain ⟨pv6, hpv6, _⟩ := id HP6.out
        have hQ7 := HQ6.out.other hpv6 (by omega) hon7
        have hB7 : Below w.heap.size w w7 := HB6.out.trans (hon7.below (Nat.le_of_eq Hbs.out.1.symm) HB6.out.size)
        have HA2 := hid (all_any b2 X [] C 0 2 w7 (HE.out.2.below hB7 (by omega)) (by have := Hbs.out; omega) hQ7 HR2.out (by have := HWy.out; omega) (by have := HWy.out; omega) (by decide))
        have HO7 := hid ho7
        have HQ7 := hid hQ7
        have HB7 := hid hB7
        clear hh ho7 hon7 hpv6 hQ7 hB7 HA1 HP6 HQ6 HB6
        go_wp2_with fail
        refine HA2.out.mono ?_; rintro r w8 ⟨a8, cap8, rfl, hh⟩
        obtain ⟨ho8, _, hon8⟩ := hh.out
        obtain ⟨qv7, hqv7, _⟩ := id HQ7.out
        have HO8 := hid ho8
        have HO7b := hid (HO7.out.kept (Kept.of_only hqv7 hon8))
        have hB8 : Below w.heap.size w w8 := HB7.out.trans (hon8.below (by have := Hbs.out; omega) HB7.out.size)
        have HA3 := hid (alive_any w8 (HE.out.2.below hB8 (by omega)))
        have HB8 := hid hB8
        clear hh ho8 hon8 hqv7 hB8 HA2 HO7 HQ7 HB7
        go_wp2_with fail
        refine HA3.out.mono ?_; rintro r w9 ⟨rfl, hb9⟩
        have hb9' := hb9.out
        have HSm := hid (same_any a7 a8 C C cap7 cap8 w9 (HO7b.out.kept (Kept.of_below hb9')).cmds (HO8.out.kept (Kept.of_below hb9')).cmds (by have := HWy.out; omega) HR1.out.short)
        rw [decide_eq_true rfl] at HSm
        have HB9 := hid (HB8.out.trans (hb9'.mono HB8.out.size))
        clear hb9 hb9' HA3 HO7b HO8 HB8
        go_wp2_with fail
        refine HSm.out.mono ?_; rintro r w10 ⟨rfl, ⟨d, rfl⟩⟩
        have HB10 := hid (below_drawn HB9.out d)
        clear HSm HB9
        rcases HWy.out with ⟨hc1, hl0⟩ | ⟨hc1, hl0⟩
        · have hlz : (0 : Int) < (l.length : Int) := by omega
          go_wp2
          go_ret
          exact ⟨ret_bool (by simp), HB10.out⟩
        · have hlz : ¬ ((0 : Int) < (l.length : Int)) := by omega
          go_wp2
          go_ret
          exact ⟨ret_bool (by simp), HB10.out⟩

end Go.Proofs.YtjcegiponjpjiabDoor
