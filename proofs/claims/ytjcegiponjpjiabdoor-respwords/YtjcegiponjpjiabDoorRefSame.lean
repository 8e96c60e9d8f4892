/- Are two rows of commands the same, by the document: ref Same. -/
import Derived.Test.YtjcegiponjpjiabDoorTexts
namespace Go.Proofs.YtjcegiponjpjiabDoor
open Go.RowKit

/-- rows of texts, in a row of slices -/
def Cmds (w : World) (p : Option Addr) (L : List (List (List UInt8))) : Prop := L ≠ [] → ∃ b o, p = some ⟨b, o, none⟩ ∧ ∀ i (h : i < L.length), ∃ q c, w.cell? ⟨b, o + i, none⟩ = some (.slice q L[i].length c) ∧ (L[i] ≠ [] → ∃ qb qo, q = some ⟨qb, qo, none⟩ ∧ ∀ k (hk : k < L[i].length), w.cell? ⟨qb, qo + k, none⟩ = some (.string ⟨L[i][k].toArray⟩))
theorem ret_bool {a b : Bool} (h : a = b) : Ending.returned (.bool a) = .returned (.bool b) := by rw [h]
theorem take_all {α : Type} {A B : List α} (hl : A.length = B.length) (h : A.take A.length = B.take A.length) : A = B := by
  rw [List.take_length] at h
  rw [h, hl, List.take_length]
set_option maxHeartbeats 2000000 in
set_option maxRecDepth 100000 in
theorem same_any (p q : Option Addr) (A B : List (List (List UInt8))) (c d : Nat) (w : World) (hA : Cmds w p A) (hB : Cmds w q B) (hl : A.length ≤ 100000000) (hl2 : ∀ x ∈ A, x.length ≤ 100000000) :
    Calls Tryd.prog 9 #[.slice p A.length c, .slice q B.length d] w fun e w' => e = .returned (.bool (decide (A = B))) ∧ Hid (∃ n, w' = w.drewN n) := by
  obtain ⟨V, hV⟩ : ∃ V, V = decide (A = B) := ⟨_, rfl⟩
  rw [← hV]
  have HV := hid hV
  by_cases hlen : A.length = B.length
  · have HA := hid hA
    have HB := hid hB
    have HL := hid hlen
    have HL2 := hid hl2
    rw [← hlen]
    clear hA hB hV hl2 hlen
    go_enter Tryd.func9, Tryd.ntmps9
    go_wp2
    go_loopw [5, 6] (fun v5 _ W => ∃ i : Nat, i ≤ A.length ∧ v5 = .int .i64 i ∧ Hid (A.take i = B.take i) ∧ Hid (∃ n, W = w.drewN n)) (fun v5 _ _ => A.length - (intOf v5).toNat)
    case atStart => exact ⟨0, Nat.zero_le _, rfl, rfl, 0, rfl⟩
    case round =>
      obtain ⟨i, hi, rfl, HT, HW⟩ := hrel
      by_cases hlt : i < A.length
      · obtain ⟨n, rfl⟩ := HW.out
        have hltB : i < B.length := by have := HL.out; omega
        obtain ⟨b1, o1, rfl, h1⟩ := HA.out (fun e => by rw [e] at hlt; simp at hlt)
        obtain ⟨b2, o2, rfl, h2⟩ := HB.out (fun e => by rw [e] at hltB; simp at hltB)
        obtain ⟨q1, c1, k1, s1⟩ := h1 i hlt
        obtain ⟨q2, c2, k2, s2⟩ := h2 i hltB
        have hx := HL2.out A[i] (List.getElem_mem hlt)
        have HNx : Hid (A[i] = B[i] → A.take (i + 1) = B.take (i + 1)) := fun e => by
          rw [List.take_succ_eq_append_getElem hlt, List.take_succ_eq_append_getElem hltB, HT.out, e]
        have HNo : Hid (A[i] ≠ B[i] → V = false) := fun e => by
          rw [HV.out]
          exact decide_eq_false fun h => e (by subst h; rfl)
        generalize A[i] = x at k1 s1 HNx HNo hx
        generalize B[i] = y at k2 s2 HNx HNo
        have S1 := hid s1
        have S2 := hid s2
        clear s1 s2 h1 h2
        by_cases hxy : x.length = y.length
        · rw [← hxy] at k2
          have HXY := hid hxy
          have heq : ((x.length : Int) != (x.length : Int)) = false := by simp
          clear hxy
          go_wp2
          go_region
          all_goals go_wp2
          all_goals go_loopw [6] (fun v6 W => ∃ k : Nat, k ≤ x.length ∧ v6 = .int .i64 k ∧ Hid (x.take k = y.take k) ∧ Hid (∃ n, W = w.drewN n)) (fun v6 _ => x.length - (intOf v6).toNat)
          case atStart => exact ⟨0, Nat.zero_le _, rfl, rfl, n + 1, rfl⟩
          case round =>
            obtain ⟨k, hk, rfl, HTk, HWk⟩ := hrel
            obtain ⟨n2, rfl⟩ := HWk.out
            by_cases hkt : k < x.length
            · have hkt2 : k < y.length := by have := HXY.out; omega
              obtain ⟨g1, u1, rfl, t1⟩ := S1.out (fun e => by rw [e] at hkt; simp at hkt)
              obtain ⟨g2, u2, rfl, t2⟩ := S2.out (fun e => by rw [e] at hkt2; simp at hkt2)
              have e1 := t1 k hkt
              have e2 := t2 k hkt2
              have HNk : Hid (x[k] = y[k] → x.take (k + 1) = y.take (k + 1)) := fun e => by
                rw [List.take_succ_eq_append_getElem hkt, List.take_succ_eq_append_getElem hkt2, HTk.out, e]
              have HNk2 : Hid (x[k] ≠ y[k] → x ≠ y) := fun e h => e (by subst h; rfl)
              generalize x[k] = s at e1 HNk HNk2
              generalize y[k] = t at e2 HNk HNk2
              clear t1 t2
              by_cases hst : s = t
              · subst hst
                have HN1 := hid (HNk.out rfl)
                go_wp2
                go_region
                all_goals go_wp2
                all_goals exact ⟨⟨k + 1, by omega, by go_num, HN1.out, n2 + 1, rfl⟩, by simp [intOf]; omega⟩
              · obtain rfl : V = false := HNo.out (HNk2.out hst)
                have hne : (s == t) = false := beq_eq_false_iff_ne.2 hst
                go_wp2
                go_region
                all_goals go_wp2
                all_goals go_ret
                all_goals exact ⟨rfl, n2 + 1, rfl⟩
            · have ek : k = x.length := by omega
              subst ek
              have HN1 := hid (HNx.out (take_all HXY.out HTk.out))
              go_wp2
              exact ⟨⟨i + 1, by omega, by go_num, HN1.out, n2, rfl⟩, by simp [intOf]; omega⟩
        · obtain rfl : V = false := HNo.out (fun e => hxy (by rw [e]))
          have hneq : ((x.length : Int) != (y.length : Int)) = true := by simp; omega
          clear hxy
          go_wp2
          go_region
          all_goals go_wp2
          all_goals go_ret
          all_goals exact ⟨rfl, n + 1, rfl⟩
      · have ei : i = A.length := by omega
        subst ei
        obtain rfl : V = true := by rw [HV.out]; exact decide_eq_true (take_all HL.out HT.out)
        go_wp2
        go_ret
        exact ⟨rfl, HW.out⟩
  · obtain rfl : V = false := by rw [hV]; exact decide_eq_false fun h => hlen (by rw [h])
    have hneq : ((A.length : Int) != (B.length : Int)) = true := by simp; omega
    clear hA hB hV HV
    go_enter Tryd.func9, Tryd.ntmps9
    go_wp2
    go_ret
    exact ⟨rfl, 0, rfl⟩

end Go.Proofs.YtjcegiponjpjiabDoor
