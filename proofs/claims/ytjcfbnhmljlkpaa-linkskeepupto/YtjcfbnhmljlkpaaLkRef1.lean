/- The document's Waiting. -/
import Derived.Test.YtjcfbnhmljlkpaaLkMem
namespace Go.Proofs.Ytjcfbnhmljlkpaa
open Go.RowKit

abbrev ways (R : List Wm) : List Wy := R.map (·.y)
theorem onV_take {R : List Wm} {i : Nat} (h : i < R.length) (f t : Int) : onV (ways (R.take (i + 1))) f t = onV (ways (R.take i)) f t ++ (if isOn f t R[i].y = true then [R[i].y.x] else []) := by
  rw [List.take_succ_eq_append_getElem h, ways, List.map_append, onV_app]
  simp only [List.map_cons, List.map_nil, onV]
theorem onV_len (l : List Wy) (f t : Int) : (onV l f t).length ≤ l.length := by
  induction l with
  | nil => simp [onV]
  | cons y l ih => simp only [onV]; split <;> simp <;> omega
set_option maxHeartbeats 2000000 in
set_option maxRecDepth 100000 in
/-- ref Waiting -/
theorem rwait_any (G P : Nat → Prop) (a : Option Addr) (R : List Wm) (c : Nat) (f t : Int) (w : World) (h : Rdw G P w a R) (hl : R.length ≤ 1000000) :
    Calls Try.prog 22 #[.slice a R.length c, .int .i64 f, .int .i64 t] w fun e w' => e = .returned (.int .i64 ((onV (ways R) f t).length : Int)) ∧ w' = w := by
  have H := hid h
  obtain ⟨n, hn⟩ : ∃ n, R.length = n := ⟨_, rfl⟩
  have HN := hid hn
  rw [hn]
  have hlz : (n : Int) ≤ 1000000 := by omega
  clear h hl hn
  go_enter Try.func22, Try.ntmps22
  go_wp2_with fail
  go_loopw [7, 8] (fun v7 v8 W => ∃ (i k : Nat), v8 = .int .i64 (i : Int) ∧ v7 = .int .i64 (k : Int) ∧ i ≤ n ∧ k ≤ i ∧ Hid (k = (onV (ways (R.take i)) f t).length) ∧ W = w) (fun _ v8 _ => n - (intOf v8).toNat)
  case atStart => exact ⟨0, 0, rfl, rfl, Nat.zero_le _, Nat.le_refl _, by simp [Hid, onV], rfl⟩
  case round =>
    obtain ⟨i, k, rfl, rfl, hi, hk, HK, rfl⟩ := hrel
    by_cases hlt : i < n
    · have hiz : (i : Int) < (n : Int) := by omega
      have hiR : i < R.length := by have := HN.out; omega
      obtain ⟨b, o, rfl, -, -, hc⟩ := H.out.facts i hiR
      have c0 : wr.cell? ⟨b, o + i * 15, none⟩ = some (.int .i64 R[i].y.frm) := hc 0 (by decide)
      have c1 : wr.cell? ⟨b, o + i * 15 + 1, none⟩ = some (.int .i64 R[i].y.dst) := hc 1 (by decide)
      have HS := hid (onV_take hiR f t)
      have hio : isOn f t R[i].y = (decide (R[i].y.frm = f) && decide (R[i].y.dst = t)) := rfl
      generalize R[i] = m at *
      generalize m.y.frm = mf at *
      generalize m.y.dst = mt at *
      clear hc
      by_cases hf : mf = f
      · have hfz : (mf == f) = true := by rw [hf]; exact beq_self_eq_true _
        by_cases ht : mt = t
        · have htz : (mt == t) = true := by rw [ht]; exact beq_self_eq_true _
          have HK2 : Hid (k + 1 = (onV (ways (R.take (i + 1))) f t).length) := by
            show _ = _
            rw [HS.out, if_pos (by rw [hio, hf, ht]; simp), HK.out]; simp
          clear hf ht hio
          go_wp2
          exact ⟨⟨i + 1, k + 1, by go_num, by go_num, by omega, by omega, HK2.out, by simp⟩, by simp [intOf]; omega⟩
        · have htz : (mt == t) = false := beq_eq_false_iff_ne.2 ht
          have HK2 : Hid (k = (onV (ways (R.take (i + 1))) f t).length) := by
            show _ = _
            rw [HS.out, if_neg (by rw [hio]; simp [ht]), HK.out]; simp
          clear hf ht hio
          go_wp2
          exact ⟨⟨i + 1, k, by go_num, rfl, by omega, by omega, HK2.out, by simp⟩, by simp [intOf]; omega⟩
      · have hfz : (mf == f) = false := beq_eq_false_iff_ne.2 hf
        have HK2 : Hid (k = (onV (ways (R.take (i + 1))) f t).length) := by
          show _ = _
          rw [HS.out, if_neg (by rw [hio]; simp [hf]), HK.out]; simp
        clear hf hio
        go_wp2
        exact ⟨⟨i + 1, k, by go_num, rfl, by omega, by omega, HK2.out, by simp⟩, by simp [intOf]; omega⟩
    · have hin : i = n := by omega
      subst hin
      go_wp2
      go_ret
      refine ⟨?_, rfl⟩
      have e := HK.out
      rw [List.take_of_length_le (by have := HN.out; omega)] at e
      rw [← e]
      rfl

end Go.Proofs.Ytjcfbnhmljlkpaa
