/- A command written, by the document: ref Command. -/
import Derived.Test.YtjcegiponjpjiaaDoorDigits
namespace Go.Proofs.YtjcegiponjpjiaaDoor
open Go.RowKit

theorem bytes_append (a b : List UInt8) : ((⟨a.toArray⟩ : ByteArray) ++ ⟨b.toArray⟩) = ⟨(a ++ b).toArray⟩ := by
  apply ByteArray.ext
  simp
theorem Below.drewN {B : Nat} {a w : World} (h : Below B a w) (n : Nat) : Below B a (w.drewN n) := ⟨h.os, h.tape, h.output, h.size, h.block⟩
set_option maxHeartbeats 4000000 in
set_option maxRecDepth 100000 in
/-- ref Command -/
theorem rCommand_any (p : Option Addr) (l : List (List UInt8)) (cap : Nat) (w : World) (hA : Strs w p l) (hT : (cmd l).length ≤ 140737488300000) (hl : l.length ≤ 140737488300000) :
    Calls Tryd.prog 17 #[.slice p l.length cap] w fun e w' => e = .returned (.string ⟨(cmd l).toArray⟩) ∧ Below w.heap.size w w' := by
  have HA := hid hA
  have HT := hid hT
  obtain ⟨C, hC⟩ : ∃ C, C = cmd l := ⟨_, rfl⟩
  rw [← hC]
  have HC := hid hC
  have HD := hid (digits_any l.length w (by omega))
  obtain ⟨D, hD⟩ : ∃ D, D = dec l.length := ⟨_, rfl⟩
  rw [← hD] at HD
  have hDl : D.length ≤ 30 := by rw [hD]; exact dec_short _ (by omega)
  obtain ⟨S0, hS0⟩ : ∃ S0, S0 = [42] ++ D := ⟨_, rfl⟩
  obtain ⟨S1, hS1⟩ : ∃ S1, S1 = S0 ++ [13, 10] := ⟨_, rfl⟩
  have q0 : ((⟨#[42]⟩ : ByteArray) ++ ⟨D.toArray⟩) = ⟨S0.toArray⟩ := by rw [hS0]; exact bytes_append [42] D
  have q1 : ((⟨S0.toArray⟩ : ByteArray) ++ ⟨#[13, 10]⟩) = ⟨S1.toArray⟩ := by rw [hS1]; exact bytes_append S0 [13, 10]
  have l0 : S0.length ≤ 31 := by rw [hS0]; simp; omega
  have HS1 : Hid (S1 = cmdTo l 0) := by rw [hS1, hS0, hD]; unfold Hid cmdTo; simp
  clear hA hT hC hD hS0 hS1
  go_enter Tryd.func17, Tryd.ntmps17
  go_wp2_with fail
  refine HD.out.mono ?_
  rintro e w1 ⟨rfl, hb1⟩
  have HB1 := hid hb1
  clear hb1 HD
  go_wp2
  go_loopw [3, 4] (fun v3 v4 W => ∃ k : Nat, k ≤ l.length ∧ v4 = .int .i64 k ∧ (∃ T : List UInt8, v3 = .string ⟨T.toArray⟩ ∧ Hid (T = cmdTo l k)) ∧ Hid (Below w.heap.size w W)) (fun _ v4 _ => l.length - (intOf v4).toNat)
  case atStart => exact ⟨0, Nat.zero_le _, rfl, ⟨S1, rfl, HS1.out⟩, HB1.out⟩
  case round =>
    obtain ⟨k, hk, rfl, ⟨T, rfl, HTk⟩, HB⟩ := hrel
    by_cases hlt : k < l.length
    · obtain ⟨b, o, rfl, hcell⟩ := HA.out (fun e => by rw [e] at hlt; simp at hlt)
      have HCk : Hid (∀ W, Below w.heap.size w W → W.cell? ⟨b, o + k, none⟩ = some (.string ⟨l[k].toArray⟩)) := fun W hb => by
        rw [hb.cell (block_lt_of_cell (hcell k hlt))]; exact hcell k hlt
      have hnx := cmdTo_next hlt
      have hle := cmdTo_len l (Nat.succ_le_of_lt hlt) (Nat.le_refl _)
      have htot := HT.out
      unfold cmd at htot
      rw [Nat.succ_eq_add_one, hnx, List.length_append] at hle
      obtain ⟨s, hs⟩ : ∃ s, s = l[k] := ⟨_, rfl⟩
      rw [← hs] at HCk hnx hle
      have hit : (item s).length = 1 + (dec s.length).length + 2 + s.length + 2 := by simp [item]; omega
      have hsl : s.length ≤ 140737488300000 := by omega
      have HDs := hid fun W => digits_any s.length W (by omega)
      obtain ⟨D2, hD2⟩ : ∃ D2, D2 = dec s.length := ⟨_, rfl⟩
      rw [← hD2] at HDs hit
      have hTl : T.length = (cmdTo l k).length := by rw [HTk.out]
      obtain ⟨S2, hS2⟩ : ∃ S2, S2 = T ++ [36] := ⟨_, rfl⟩
      obtain ⟨S3, hS3⟩ : ∃ S3, S3 = S2 ++ D2 := ⟨_, rfl⟩
      obtain ⟨S4, hS4⟩ : ∃ S4, S4 = S3 ++ [13, 10] := ⟨_, rfl⟩
      obtain ⟨S5, hS5⟩ : ∃ S5, S5 = S4 ++ s := ⟨_, rfl⟩
      obtain ⟨S6, hS6⟩ : ∃ S6, S6 = S5 ++ [13, 10] := ⟨_, rfl⟩
      have q2 : ((⟨T.toArray⟩ : ByteArray) ++ ⟨#[36]⟩) = ⟨S2.toArray⟩ := by rw [hS2]; exact bytes_append T [36]
      have q3 : ((⟨S2.toArray⟩ : ByteArray) ++ ⟨D2.toArray⟩) = ⟨S3.toArray⟩ := by rw [hS3]; exact bytes_append S2 D2
      have q4 : ((⟨S3.toArray⟩ : ByteArray) ++ ⟨#[13, 10]⟩) = ⟨S4.toArray⟩ := by rw [hS4]; exact bytes_append S3 [13, 10]
      have q5 : ((⟨S4.toArray⟩ : ByteArray) ++ ⟨s.toArray⟩) = ⟨S5.toArray⟩ := by rw [hS5]; exact bytes_append S4 s
      have q6 : ((⟨S5.toArray⟩ : ByteArray) ++ ⟨#[13, 10]⟩) = ⟨S6.toArray⟩ := by rw [hS6]; exact bytes_append S5 [13, 10]
      have g2 : S2.length = T.length + 1 := by rw [hS2]; simp
      have g3 : S3.length = S2.length + D2.length := by rw [hS3]; simp
      have g4 : S4.length = S3.length + 2 := by rw [hS4]; simp
      have g5 : S5.length = S4.length + s.length := by rw [hS5]; simp
      have k6 : S5.length + 2 ≤ 140737488300000 := by omega
      have k5 : S4.length + s.length ≤ 140737488300000 := by omega
      have k4 : S3.length + 2 ≤ 140737488300000 := by omega
      have k3 : S2.length + D2.length ≤ 140737488300000 := by omega
      have k2 : T.length + 1 ≤ 140737488300000 := by omega
      have HS6 : Hid (S6 = cmdTo l (k + 1)) := by
        rw [hnx, hS6, hS5, hS4, hS3, hS2, HTk.out, hD2]
        unfold Hid item
        simp only [List.append_assoc]
      have ck := HCk.out wr.drew (Below.drew HB.out)
      have hwr : w.heap.size ≤ wr.heap.size := HB.out.size
      clear hnx hle htot hit hs hcell hD2 hTl hS2 hS3 hS4 hS5 hS6 g2 g3 g4 g5 HT HS1 q0 q1 l0 hDl
      go_wp2_with fail
      go_region_with (go_at_call 21; refine (HDs.out _).mono ?_; rintro e w2 ⟨rfl, hb2⟩; have HB2 := hid (Below.trans (Below.drew HB.out) (hb2.mono hwr)); have ck2 := HCk.out w2 HB2.out; clear hb2)
      all_goals go_wp2
      all_goals exact ⟨⟨k + 1, by omega, by go_num, ⟨S6, rfl, HS6.out⟩, HB2.out⟩, by simp [intOf]; omega⟩
    · have ek : k = l.length := by omega
      subst ek
      obtain rfl : T = C := HTk.out.trans HC.out.symm
      go_wp2
      go_ret
      exact ⟨rfl, HB.out⟩

end Go.Proofs.YtjcegiponjpjiaaDoor
