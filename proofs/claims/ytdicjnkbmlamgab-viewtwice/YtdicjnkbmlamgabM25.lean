/- VwSame. -/
import Derived.Deep.QuietTactic
import Derived.Lib.QuietBelow
import Derived.Test.YtdicjnkbmlamgabM23
namespace Go.Proofs.Ytdicjnkbmlamgab
open Go.RowKit
open Slot

/-- a row of packets that may be read -/
def Pks (w : World) (a : Option Addr) (L : List Pk) : Prop := L ≠ [] → ∃ b o, a = some ⟨b, o, none⟩ ∧ b < w.heap.size ∧ ∀ j (h : j < L.length), w.rangeAt b (o + j * 261) (pkCells L[j]).toList
theorem Pks.below {w w' : World} {n : Nat} {a : Option Addr} {L : List Pk} (h : Pks w a L) (hb : Below n w w') (hn : ∀ x, a = some x → x.block < n) : Pks w' a L := fun hne => by
  obtain ⟨b, o, rfl, h1, h2⟩ := h hne
  refine ⟨b, o, rfl, Nat.lt_of_lt_of_le h1 hb.size, fun j hj i v hv => ?_⟩
  rw [hb.cell (p := ⟨b, o + j * 261 + i, none⟩) (hn ⟨b, o, none⟩ rfl)]
  exact h2 j hj i v hv
/-- are two rows the same? -/
def sameL : List Pk → List Pk → Bool
  | [], [] => true
  | p :: L, q :: M => sameP p q && sameL L M
  | _, _ => false
theorem sameL_len : ∀ {L M : List Pk}, sameL L M = true → L.length = M.length
  | [], [], _ => rfl
  | p :: L, q :: M, h => by
    have := sameL_len (L := L) (M := M) (by simp only [sameL, Bool.and_eq_true] at h; exact h.2)
    simp [this]
theorem sameL_self : ∀ L : List Pk, sameL L L = true
  | [] => rfl
  | p :: L => by simp only [sameL, sameL_self L, Bool.and_true]; exact (sameP_iff p p).2 (Like.refl p)
theorem sameL_iff : ∀ (L M : List Pk), L.length = M.length → (sameL L M = true ↔ ∀ j (h : j < L.length) (h' : j < M.length), sameP L[j] M[j] = true)
  | [], [], _ => ⟨fun _ j h => absurd h (by simp), fun _ => rfl⟩
  | p :: L, q :: M, hl => by
    have ih := sameL_iff L M (by simpa using hl)
    simp only [sameL, Bool.and_eq_true]
    refine ⟨fun h j hj hj' => ?_, fun h => ⟨h 0 (by simp) (by simp), ih.2 fun j hj hj' => h (j + 1) (by simpa using hj) (by simpa using hj')⟩⟩
    cases j with
    | zero => exact h.1
    | succ j => exact ih.1 h.2 j (by simpa using hj) (by simpa using hj')
theorem quiet_load_mid {P : Program} {ops : Array Oper} {C : World → Prop} {rest : List Oper} {o : Oper} {a : Act} {Q : Act → Prop} (hw : Region.wanted o (yielded ops a.tmps) = true) (ty : TypeId) (x : Operand) (ho : o.op = .load ty x)
    (g k : Nat) (hx : a.eval x = .pointer (some ⟨g, k, none⟩)) (cs : Array Value) (d : TypeDesc) (hg : ∀ w, C w → w.rangeAt g k cs.toList)
    (hu : P.underlying ty = some d) (hd : d.isRow = true) (hi : (P.info? ty).map (·.size) = some cs.toList.length)
    (h : wpQuiet P ops C Q rest (a.put o.dst (.agg cs))) : wpQuiet P ops C Q (o :: rest) a := by
  unfold wpQuiet
  rw [if_pos hw]
  refine ⟨.agg cs, fun w hC => ?_, h⟩
  unfold Oper.quietAt execOp
  have := run_loadVar_mid (P := P) w g k ty cs.toList d (hg w hC) hu hd hi
  rw [Array.toArray_toList] at this
  simp only [ho, hx, Instr.loadAt, Instr.sureAddr, Sem.run_bind, Sem.run_pure, Result.andThen_ok, this]
  exact ⟨rfl, rfl⟩
theorem range_drewN {w : World} {b o : Nat} {cs : List Value} (h : w.rangeAt b o cs) {w' : World} (hc : ∃ n, w' = w.drewN n) : w'.rangeAt b o cs := by
  obtain ⟨n, rfl⟩ := hc
  exact h
theorem infoPl (p : Pk) : (Try.prog.info? 29).map (·.size) = some (pkCells p).toList.length := by rw [Array.length_toList]; exact infoPk p
set_option maxHeartbeats 4000000 in
set_option maxRecDepth 100000 in
theorem same_eq (a a' : Option Addr) (L M : List Pk) (n c c' : Nat) (w : World) (hnL : L.length = n) (hnM : M.length = n) (hL : Pks w a L) (hM : Pks w a' M) (hb : n ≤ 1000000) : Calls Try.prog 11 #[.slice a n c, .slice a' n c'] w fun e w' => e = .returned (.bool (sameL L M)) ∧ Below w.heap.size w w' := by
  have HI := hid (sameL_iff L M (hnL.trans hnM.symm))
  have HnL := hid hnL
  have HnM := hid hnM
  have HL := hid hL
  have HM := hid hM
  generalize sameL L M = R at *
  have hnz : (n : Int) ≤ 1000000 := by omega
  clear hL hM hnL hnM
  go_enter Try.func11, Try.ntmps11
  go_wp2_with fail
  go_loopw [5] (fun i wr => ∃ k : Nat, k ≤ n ∧ i = .int .i64 k ∧ Hid (∀ j, j < k → ∀ (h : j < L.length) (h' : j < M.length), sameP L[j] M[j] = true) ∧ Hid (∃ d, wr = w.drewN d)) (fun i _ => n - (intOf i).toNat)
  case atStart => exact ⟨0, by omega, rfl, fun j hj => absurd hj (Nat.not_lt_zero _), ⟨0, rfl⟩⟩
  case round =>
    obtain ⟨k, hk, rfl, HS, HD⟩ := hrel
    obtain ⟨dd, hdd⟩ := HD.out
    by_cases hlt : k < n
    · have hkz : (k : Int) < (n : Int) := by omega
      have hkL : k < L.length := by have := HnL.out; omega
      have hkM : k < M.length := by have := HnM.out; omega
      obtain ⟨b, o, rfl, -, h1⟩ := HL.out (fun e => by rw [e] at hkL; exact absurd hkL (Nat.not_lt_zero _))
      obtain ⟨b', o', rfl, -, h1'⟩ := HM.out (fun e => by rw [e] at hkM; exact absurd hkM (Nat.not_lt_zero _))
      have g1 : Hid (wr.rangeAt b (o + k * 261) (pkCells L[k]).toList) := by rw [hdd]; exact h1 k hkL
      have g2 : Hid (wr.rangeAt b' (o' + k * 261) (pkCells M[k]).toList) := by rw [hdd]; exact h1' k hkM
      have heq := fun w => eq_packet L[k] M[k] w
      have HK : Hid (∀ b : Bool, sameP L[k] M[k] = b → (b = false → R = false)) := fun b h e => by
        cases hR : R
        · rfl
        · have := HI.out.1 hR k hkL hkM
          rw [h, e] at this
          cases this
      have i1 := infoPl L[k]
      have i2 := infoPl M[k]
      have HW : Hid (∀ n, Below w.heap.size w (wr.drewN n)) := fun n => by rw [hdd]; exact Below.drewN (Below.drewN (Below.refl _ w) dd) n
      have HDn : Hid (∀ n, ∃ d, wr.drewN n = w.drewN d) := fun n => by rw [hdd]; exact ⟨dd + n, by simp [World.drewN, Nat.add_assoc]⟩
      have HX : Hid (sameP L[k] M[k] = true → ∀ j, j < k + 1 → ∀ (h : j < L.length) (h' : j < M.length), sameP L[j] M[j] = true) := fun hx j hj h h' => by
        by_cases e : j = k
        · subst e; exact hx
        · exact HS.out j (by omega) h h'
      generalize sameP L[k] M[k] = B at *
      generalize pkCells L[k] = P1 at *
      generalize pkCells M[k] = P2 at *
      clear h1 h1' hdd
      cases B
      all_goals
        go_wp2_with fail
        refine wp_region_quiet_lit (by kernel_rfl) (by kernel_rfl) ?_
        repeat (first
          | (refine quiet_load_mid rfl 29 _ rfl b (o + k * 261) rfl P1 _ (fun W hc => range_drewN g1.out hc) Try.underlying29 rfl i1 ?_)
          | (refine quiet_load_mid rfl 29 _ rfl b' (o' + k * 261) rfl P2 _ (fun W hc => range_drewN g2.out hc) Try.underlying29 rfl i2 ?_)
          | quiet_step (fail))
        refine wpQuiet_nil ?_
        intro _ hw'
        obtain ⟨nq, hw''⟩ := hw'
        subst hw''
      · have HR := hid (HK.out false rfl rfl)
        go_wp2
        go_ret
        exact ⟨by rw [HR.out]; rfl, HW.out nq⟩
      · go_wp2
        go_roundw
        case rel => exact ⟨k + 1, by omega, by go_num, HX.out (by first | rfl | trivial), HDn.out nq⟩
        case measure => simp [intOf]; omega
    · obtain rfl : k = n := by omega
      have HR : Hid (R = true) := HI.out.2 (fun j h h' => HS.out j (by have := HnL.out; omega) h h')
      have HW : Hid (Below w.heap.size w wr) := by rw [hdd]; exact Below.drewN (Below.refl _ w) dd
      clear hdd
      go_wp2
      go_ret
      exact ⟨by rw [HR.out]; rfl, HW.out⟩

end Go.Proofs.Ytdicjnkbmlamgab
