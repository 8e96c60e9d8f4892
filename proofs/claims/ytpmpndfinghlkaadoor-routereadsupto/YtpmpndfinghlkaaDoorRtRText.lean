/- How a client is told: the document's Text. -/
import Derived.Test.YtpmpndfinghlkaaDoorRtText2
import Derived.Deep.QuietTactic
import Derived.Lib.QuietBelow
namespace Go.Proofs.YtpmpndfinghlkaaDoor
open Go.RowKit

/-- the numbers behind a word, as the document joins them -/
def tailV (s n : Int) : List UInt8 := 32 :: (Lib.itoa s ++ 32 :: Lib.itoa n)
set_option maxHeartbeats 2000000 in
set_option maxRecDepth 100000 in
theorem rtext_any (d : DecV) (w : World) (hd : DecIn d) : Calls Tryd.prog 15 #[.agg (decCells d)] w fun e w' => e = .returned (.string ⟨(textV d).toArray⟩) ∧ Below w.heap.size w w' := by
  obtain ⟨k, s, n, t⟩ := d
  obtain ⟨-, hs, hn, ht⟩ := hd
  replace hs : In64 s := hs
  replace hn : In64 n := hn
  replace ht : In64 t := ht
  have HT2 : Hid (k = 2 → wMoved ++ tailV s n = textV ⟨k, s, n, t⟩) := fun h => by subst h; rfl
  have HT3 : Hid (k = 3 → (wAsk ++ tailV s n) ++ 32 :: Lib.itoa t = textV ⟨k, s, n, t⟩) := fun h => by subst h; simp [textV, tailV]
  have HT4 : Hid (k = 4 → textV ⟨k, s, n, t⟩ = wAgain) := fun h => by subst h; rfl
  have HT5 : Hid (k = 5 → textV ⟨k, s, n, t⟩ = wCross) := fun h => by subst h; rfl
  have HT6 : Hid (k = 6 → textV ⟨k, s, n, t⟩ = wDown) := fun h => by subst h; rfl
  have HTo : Hid (k ≠ 2 → k ≠ 3 → k ≠ 4 → k ≠ 5 → k ≠ 6 → textV ⟨k, s, n, t⟩ = []) := fun a b c d e => textV_o a b c d e
  generalize textV ⟨k, s, n, t⟩ = TV at *
  have hls := itoa_len s hs.1 hs.2
  have hln := itoa_len n hn.1 hn.2
  have hlt := itoa_len t ht.1 ht.2
  have D1 := fun W => digits_any s W hs.1 hs.2
  have D2 := fun W => digits_any n W hn.1 hn.2
  have D3 := fun W => digits_any t W ht.1 ht.2
  have htv : 32 :: (Lib.itoa s ++ 32 :: Lib.itoa n) = tailV s n := rfl
  generalize Lib.itoa s = S at *
  generalize Lib.itoa n = N at *
  generalize Lib.itoa t = T at *
  generalize tailV s n = V at *
  have c1 : (⟨#[32]⟩ ++ ⟨S.toArray⟩ : ByteArray) = ⟨(32 :: S).toArray⟩ := by rw [show (⟨#[32]⟩ : ByteArray) = ⟨[32].toArray⟩ from rfl, app_ba]; rfl
  have c2 : (⟨(32 :: S).toArray⟩ ++ ⟨#[32]⟩ : ByteArray) = ⟨(32 :: S ++ [32]).toArray⟩ := by rw [show (⟨#[32]⟩ : ByteArray) = ⟨[32].toArray⟩ from rfl, app_ba]
  have c3 : (⟨(32 :: S ++ [32]).toArray⟩ ++ ⟨N.toArray⟩ : ByteArray) = ⟨V.toArray⟩ := by rw [app_ba, ← htv]; simp
  have l1 : (32 :: S).length ≤ 22 := by simp; omega
  have l2 : (32 :: S ++ [32]).length ≤ 23 := by simp; omega
  have l3 : V.length ≤ 50 := by rw [← htv]; simp; omega
  obtain ⟨A1, hA1⟩ : ∃ A, 32 :: S = A := ⟨_, rfl⟩
  rw [hA1] at c1 c2 c3 l1 l2
  obtain ⟨A2, hA2⟩ : ∃ A, A1 ++ [32] = A := ⟨_, rfl⟩
  rw [hA2] at c2 c3 l2
  obtain ⟨M, hM⟩ : ∃ M, wMoved ++ V = M := ⟨_, rfl⟩
  obtain ⟨K1, hK1⟩ : ∃ K, wAsk ++ V = K := ⟨_, rfl⟩
  obtain ⟨K2, hK2⟩ : ∃ K, K1 ++ [32] = K := ⟨_, rfl⟩
  obtain ⟨K3, hK3⟩ : ∃ K, K2 ++ T = K := ⟨_, rfl⟩
  have c4 : (⟨#[77, 79, 86, 69, 68]⟩ ++ ⟨V.toArray⟩ : ByteArray) = ⟨M.toArray⟩ := by rw [show (⟨#[77, 79, 86, 69, 68]⟩ : ByteArray) = ⟨wMoved.toArray⟩ from rfl, app_ba, hM]
  have c5 : (⟨#[65, 83, 75]⟩ ++ ⟨V.toArray⟩ : ByteArray) = ⟨K1.toArray⟩ := by rw [show (⟨#[65, 83, 75]⟩ : ByteArray) = ⟨wAsk.toArray⟩ from rfl, app_ba, hK1]
  have c6 : (⟨K1.toArray⟩ ++ ⟨#[32]⟩ : ByteArray) = ⟨K2.toArray⟩ := by rw [show (⟨#[32]⟩ : ByteArray) = ⟨[32].toArray⟩ from rfl, app_ba, hK2]
  have c7 : (⟨K2.toArray⟩ ++ ⟨T.toArray⟩ : ByteArray) = ⟨K3.toArray⟩ := by rw [app_ba, hK3]
  have lK1 : K1.length ≤ 60 := by rw [← hK1]; simp [wAsk]; omega
  have lK2 : K2.length ≤ 61 := by rw [← hK2]; simp; omega
  have HM : Hid (k = 2 → M = TV) := fun h => by rw [← HT2.out h, hM]
  have HK : Hid (k = 3 → K3 = TV) := fun h => by rw [← HT3.out h, ← hK3, ← hK2, hK1]; simp
  show Calls Tryd.prog 15 #[.agg #[.int .i64 k, .int .i64 s, .int .i64 n, .int .i64 t]] w _
  have HB1 := hid (below_alloc w (.cells #[.int .i64 k, .int .i64 s, .int .i64 n, .int .i64 t] 28))
  have hBx := heap_alloc_new w (.cells #[.int .i64 k, .int .i64 s, .int .i64 n, .int .i64 t] 28)
  obtain ⟨w1, hw1⟩ : ∃ w1, w.alloc (.cells #[.int .i64 k, .int .i64 s, .int .i64 n, .int .i64 t] 28) = w1 := ⟨_, rfl⟩
  rw [hw1] at HB1 hBx
  have k0 : w1.cell? ⟨w.heap.size, 0, none⟩ = some (.int .i64 k) := cell_of_row _ _ 0 _ _ _ hBx
  have k1 : w1.cell? ⟨w.heap.size, 1, none⟩ = some (.int .i64 s) := cell_of_row _ _ 1 _ _ _ hBx
  have k2 : w1.cell? ⟨w.heap.size, 2, none⟩ = some (.int .i64 n) := cell_of_row _ _ 2 _ _ _ hBx
  have k3 : w1.cell? ⟨w.heap.size, 3, none⟩ = some (.int .i64 t) := cell_of_row _ _ 3 _ _ _ hBx
  have n1 : ¬ 9223372036854775807 < 1 + S.length := by omega
  have n2 : ¬ 9223372036854775807 < A1.length + 1 := by omega
  have n3 : ¬ 9223372036854775807 < A2.length + N.length := by omega
  have g1 := cell_regrown k1
  have g2 := cell_regrown k2
  have E1 := hid fun d os => Calls.regrown_of (D1 (Sort.grow (redrawn w1 d) os))
  have E2 := hid fun d os => Calls.regrown_of (D2 (Sort.grow (redrawn w1 d) os))
  have HD3 := hid D3
  have HBW := hid (fun d os => (below_regrown w1 d os))
  have HK0 := hid (cell_regrown k0)
  have HK3 := hid (cell_regrown k3)
  clear D1 D2 D3 hs hn ht hBx k0 k1 k2 k3 HT2 HT3 hM hK1 hK2 hK3 htv hA1 hA2
  go_enter Tryd.func15, Tryd.ntmps15
  go_wp2_with fail
  try rw [hw1]
  clear hw1
  refine wp_region_quiet_below (by kernel_rfl) (by kernel_rfl) ?_
  iterate 6 (quiet_step (exact E1.out _ _))
  repeat (quiet_step (exact E2.out _ _))
  refine wpQuiet_nil ?_
  intro _ hw'
  obtain ⟨⟨dq, osq⟩, hw''⟩ := hw'
  subst hw''
  have HB2 := hid (HB1.out.trans ((HBW.out dq osq).mono HB1.out.size))
  have c0 := HK0.out dq osq
  have c30 := HK3.out dq osq
  clear HB1 HBW HK0 HK3 g1 g2 n1 n2 n3 c1 c2 c3 l1 l2 E1 E2
  generalize Sort.grow (redrawn w1 dq) osq = w2 at *
  by_cases h2 : k = 2
  · subst h2
    have HV := HM.out rfl
    subst HV
    go_wp2
    go_ret
    exact ⟨rfl, HB2.out⟩
  have h2z : (k == 2) = false := beq_eq_false_iff_ne.2 h2
  by_cases h3 : k = 3
  · subst h3
    have HV := HK.out rfl
    subst HV
    clear h2 h2z
    go_wp2_with fail
    refine (HD3.out _).mono ?_; rintro e w3 ⟨rfl, hb⟩
    have HB3 := hid (HB2.out.trans (hb.mono HB2.out.size))
    clear hb
    go_wp2
    go_ret
    exact ⟨rfl, HB3.out⟩
  have h3z : (k == 3) = false := beq_eq_false_iff_ne.2 h3
  by_cases h4 : k = 4
  · subst h4
    have HV := HT4.out rfl
    subst HV
    clear h2 h2z h3 h3z
    go_wp2
    go_ret
    exact ⟨rfl, HB2.out⟩
  have h4z : (k == 4) = false := beq_eq_false_iff_ne.2 h4
  by_cases h5 : k = 5
  · subst h5
    have HV := HT5.out rfl
    subst HV
    clear h2 h2z h3 h3z h4 h4z
    go_wp2
    go_ret
    exact ⟨rfl, HB2.out⟩
  have h5z : (k == 5) = false := beq_eq_false_iff_ne.2 h5
  by_cases h6 : k = 6
  · subst h6
    have HV := HT6.out rfl
    subst HV
    clear h2 h2z h3 h3z h4 h4z h5 h5z
    go_wp2
    go_ret
    exact ⟨rfl, HB2.out⟩
  have h6z : (k == 6) = false := beq_eq_false_iff_ne.2 h6
  have HV := HTo.out h2 h3 h4 h5 h6
  subst HV
  clear h2 h3 h4 h5 h6
  go_wp2
  go_ret
  exact ⟨rfl, HB2.out⟩

end Go.Proofs.YtpmpndfinghlkaaDoor
