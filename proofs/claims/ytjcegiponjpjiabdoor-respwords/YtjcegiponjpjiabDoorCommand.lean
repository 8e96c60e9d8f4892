/- A command written: resp.Command. -/
import Derived.Test.YtjcegiponjpjiabDoorWrite
import Derived.Lib.ItoaLen
namespace Go.Proofs.YtjcegiponjpjiabDoor
open Go.RowKit

/-- where texts lie -/
def Strs (w : World) (p : Option Addr) (l : List (List UInt8)) : Prop := l ≠ [] → ∃ b o, p = some ⟨b, o, none⟩ ∧ ∀ i (h : i < l.length), w.cell? ⟨b, o + i, none⟩ = some (.string ⟨l[i].toArray⟩)
theorem Strs.below {w w' : World} {n : Nat} {p : Option Addr} {l : List (List UInt8)} (h : Strs w p l) (hb : Below n w w') (hn : w.heap.size ≤ n) : Strs w' p l := fun hne => by
  obtain ⟨b, o, rfl, hc⟩ := h hne
  exact ⟨b, o, rfl, fun i hi => by rw [hb.cell (Nat.lt_of_lt_of_le (block_lt_of_cell (hc i hi)) hn)]; exact hc i hi⟩
/-- an argument as it is written -/
def item (s : List UInt8) : List UInt8 := [36] ++ dec s.length ++ [13, 10] ++ s ++ [13, 10]
/-- a command as it is written, up to so many arguments -/
def cmdTo (l : List (List UInt8)) (k : Nat) : List UInt8 := [42] ++ dec l.length ++ [13, 10] ++ ((l.take k).map item).flatten
def cmd (l : List (List UInt8)) : List UInt8 := cmdTo l l.length
theorem cmdTo_next {l : List (List UInt8)} {k : Nat} (h : k < l.length) : cmdTo l (k + 1) = cmdTo l k ++ item l[k] := by
  unfold cmdTo
  rw [List.take_succ_eq_append_getElem h, List.map_append, List.flatten_append, ← List.append_assoc]
  simp only [List.map_cons, List.map_nil, List.flatten_cons, List.flatten_nil, List.append_nil]
theorem cmdTo_len (l : List (List UInt8)) : ∀ {k j : Nat}, k ≤ j → j ≤ l.length → (cmdTo l k).length ≤ (cmdTo l j).length := by
  intro k j h
  induction h with
  | refl => intro _; exact Nat.le_refl _
  | step h ih =>
    intro hj
    rw [Nat.succ_eq_add_one, cmdTo_next (by omega), List.length_append]
    have := ih (by omega)
    omega
theorem dec_len (n : Nat) : ∀ k, n < 10 ^ (k + 1) → (dec n).length ≤ k + 1 := by
  induction n using Nat.strongRecOn with
  | ind n ih =>
    intro k h
    by_cases h10 : n < 10
    · rw [show dec n = _ from Lib.decDigits_one h10]; simp
    · rw [show dec n = dec (n / 10) ++ [UInt8.ofNat (48 + n % 10)] by unfold dec; rw [Lib.decDigits, dif_neg h10]]
      cases k with
      | zero => omega
      | succ k =>
        have := ih (n / 10) (by omega) k (by rw [Nat.pow_succ] at h; omega)
        simp; omega
theorem dec_short (n : Nat) (h : n ≤ 9223372036854775807) : (dec n).length ≤ 30 := by
  have := dec_len n 19 (by omega)
  omega
theorem owns_string {B : Nat} {W : World} {v : Value} {T : List UInt8} (h : W.ownsRow B 5 1 v T.length (Lib.byteCells T)) : (convert 26 9 v).run Tryd.prog W = .ok (.string ⟨T.toArray⟩) W := by
  rcases h.2 with ⟨rfl, h0⟩ | ⟨g, cap, cur, rfl, _⟩
  · rw [List.length_eq_zero_iff.1 h0]
    exact run_convert_bytes_nil W 26 5 Tryd.underlying26 Tryd.underlying5 0 0 9 Tryd.underlying9
  · exact run_convert_bytes_back (P := Tryd.prog) W 26 9 5 ⟨g, 0, none⟩ cap T Tryd.underlying26 Tryd.underlying5 Tryd.underlying9 (fun j hj => World.ownsRow.cells h (g := g) rfl j _ (by simp [Lib.byteCells, hj]))
set_option maxHeartbeats 2000000 in
set_option maxRecDepth 100000 in
/-- Command -/
theorem command_any (p : Option Addr) (l : List (List UInt8)) (cap : Nat) (w : World) (hE : Env w) (hA : Strs w p l) (hT : (cmd l).length ≤ 140737488300000) (hl : l.length ≤ 140737488300000) :
    Calls Tryd.prog 7 #[.slice p l.length cap] w fun e w' => e = .returned (.string ⟨(cmd l).toArray⟩) ∧ Below w.heap.size w w' := by
  have t0 : Txt w.heap.size w w (.slice none 0 0) [] := ⟨⟨rfl, .inl ⟨rfl, rfl⟩⟩, Below.refl _ _, Nat.le_refl _⟩
  have HN0 := hid (appendNumber_any t0 hE hE.room 42 l.length (by omega) (by simp) (dec_short _ (by omega)))
  have HE := hid hE
  have HA := hid hA
  have HT := hid hT
  obtain ⟨C, hC⟩ : ∃ C, C = cmd l := ⟨_, rfl⟩
  rw [← hC]
  have HC := hid hC
  clear hE hA hT t0 hC
  go_enter Tryd.func7, Tryd.ntmps7
  go_wp2_with fail
  refine HN0.out.mono ?_
  rintro e w1 ⟨v1, rfl, ht1⟩
  have HT1 : Hid (Txt w.heap.size w w1 v1 (cmdTo l 0)) := by
    have := ht1.out
    simp only [List.nil_append] at this
    unfold Hid cmdTo
    simpa using this
  clear ht1 HN0
  go_wp2
  go_loopw [3, 5, 11] (fun v3 _ v11 W => ∃ k : Nat, k ≤ l.length ∧ v11 = .int .i64 k ∧ Hid (Txt w.heap.size w W v3 (cmdTo l k))) (fun _ _ v11 _ => l.length - (intOf v11).toNat)
  case atStart => exact ⟨0, Nat.zero_le _, rfl, HT1.out⟩
  case round =>
    obtain ⟨k, hk, rfl, HK⟩ := hrel
    by_cases hlt : k < l.length
    · obtain ⟨b, o, rfl, hcell⟩ := HA.out (fun e => by rw [e] at hlt; simp at hlt)
      have hck : wr.cell? ⟨b, o + k, none⟩ = some (.string ⟨l[k].toArray⟩) := by
        rw [HK.out.bel.cell (block_lt_of_cell (hcell k hlt))]; exact hcell k hlt
      have hnx := cmdTo_next hlt
      have hle := cmdTo_len l (Nat.succ_le_of_lt hlt) (Nat.le_refl _)
      have htot := HT.out
      unfold cmd at htot
      rw [Nat.succ_eq_add_one, hnx, List.length_append] at hle
      obtain ⟨s, hs⟩ : ∃ s, s = l[k] := ⟨_, rfl⟩
      rw [← hs] at hck hnx hle
      have hit : (item s).length = 1 + (dec s.length).length + 2 + s.length + 2 := by simp [item]; omega
      have HN := hid (appendNumber_any HK.out HE.out HE.out.room 36 s.length (by omega) (by omega) (dec_short _ (by omega)))
      have HNx := hid hnx
      have HB := hid (And.intro hle (And.intro htot hit))
      have hsl : s.length ≤ 140737488300000 := by omega
      clear hnx hle htot hit hs hcell
      go_wp2_with fail
      refine HN.out.mono ?_
      rintro e w2 ⟨v2, rfl, ht2⟩
      obtain ⟨hle, htot, hit⟩ := HB.out
      obtain ⟨v3, w3, hrun3, ht3⟩ := ht2.out.str s (by simp only [List.length_append, List.length_cons, List.length_nil]; omega)
      obtain ⟨v4, w4, hrun4, ht4⟩ := ht3.str [13, 10] (by simp only [List.length_append, List.length_cons, List.length_nil]; omega)
      have HR3 := hid hrun3
      have HR4 := hid hrun4
      have HT4 : Hid (Txt w.heap.size w w4 v4 (cmdTo l (k + 1))) := by
        rw [HNx.out]
        unfold Hid item
        have e : cmdTo l k ++ ([36] ++ dec s.length ++ [13, 10] ++ s ++ [13, 10]) = cmdTo l k ++ [36] ++ dec s.length ++ [13, 10] ++ s ++ [13, 10] := by simp only [List.append_assoc]
        rw [e]
        exact ht4
      clear ht2 hle htot hit hrun3 hrun4 ht3 ht4 HN
      go_wp2_with (at_builtin; first | (refine wpList_append_runs rfl _ _ 26 9 rfl _ _ _ _ rfl rfl HR3.out ?_) | (refine wpList_append_runs rfl _ _ 26 9 rfl _ _ _ _ rfl rfl HR4.out ?_))
      refine ⟨⟨k + 1, by omega, by go_num, HT4.out⟩, by simp [intOf]; omega⟩
    · have ek : k = l.length := by omega
      subst ek
      have hcv := owns_string HK.out.own
      have HBl := hid HK.out.bel
      rw [show cmdTo l l.length = C from HC.out.symm] at hcv
      clear HK
      go_wp2
      go_ret
      exact ⟨rfl, HBl.out⟩

end Go.Proofs.YtjcegiponjpjiabDoor
