/- SeAlong. -/
import Derived.WalkLawsBesides
import Derived.Test.YtppgifaegnmciaaDoorM26
import Derived.Test.YtppgifaegnmciaaDoorM01
namespace Go.Proofs.YtppgifaegnmciaaDoor
open Go.RowKit

def lenOf : Value → Nat
  | .slice _ n _ => n
  | _ => 0
/-- a row without its first text -/
theorem Rd.rest {w : World} {p : Option Addr} {c : Nat} {x : Nm} {l : Row} (h : Rd w p c (x :: l)) : ∃ g o, p = some ⟨g, o, none⟩ ∧ g < w.heap.size ∧ w.cell? ⟨g, o, none⟩ = some (txt x) ∧
    ∃ A : Addr, (if c = 1 then some (⟨g, o, none⟩ : Addr) else some ⟨g, o + 1, none⟩) = some A ∧ Rd w (some A) (c - 1) l := by
  obtain ⟨g, o, rfl, hc⟩ := h.strs (by simp)
  have h0 := hc 0 (by simp)
  refine ⟨g, o, rfl, block_lt_of_cell h0, h0, ?_⟩
  have hl : l.length + 1 ≤ c := by have := h.cap; simpa using this
  by_cases e : c = 1
  · have hn : l = [] := List.length_eq_zero_iff.1 (by omega)
    subst hn
    exact ⟨_, if_pos e, fun h => absurd rfl h, fun h => (by cases h), by simp⟩
  · refine ⟨_, if_neg e, fun _ => ⟨g, o + 1, rfl, fun i hi => ?_⟩, fun h => (by cases h), by omega⟩
    have := hc (i + 1) (by simp; omega)
    rw [show o + 1 + i = o + (i + 1) by omega]
    simpa using this
/-- the room is not seen -/
theorem side_room : ∀ (n m : Nat) (a b : List Nm), a.length + b.length ≤ n → a.length + b.length ≤ m → side n a b = side m a b
  | 0, 0, _, _, _, _ => rfl
  | 0, m + 1, [], [], _, _ => rfl
  | 0, m + 1, x :: a, _, h, _ => by simp at h
  | 0, m + 1, [], y :: b, h, _ => by simp at h
  | n + 1, 0, [], [], _, _ => rfl
  | n + 1, 0, x :: a, _, _, h => by simp at h
  | n + 1, 0, [], y :: b, _, h => by simp at h
  | n + 1, m + 1, [], [], _, _ => rfl
  | n + 1, m + 1, x :: a, [], h, k => by rw [side, side, side_room n m a [] (by simp at h ⊢; omega) (by simp at k ⊢; omega)]
  | n + 1, m + 1, [], y :: b, h, k => by rw [side, side, side_room n m [] b (by simp at h ⊢; omega) (by simp at k ⊢; omega)]
  | n + 1, m + 1, x :: a, y :: b, h, k => by
    rw [side, side, side_room n m a (y :: b) (by simp at h ⊢; omega) (by simp at k ⊢; omega), side_room n m (x :: a) b (by simp at h ⊢; omega) (by simp at k ⊢; omega), side_room n m a b (by simp at h ⊢; omega) (by simp at k ⊢; omega)]
theorem side_nil (n : Nat) : side n [] [] = [] := by cases n <;> rfl

/-- what holds of what was told, and is left alone by draws -/
structure InvP (B : Nat) (w0 : World) (I : List Told → World → Prop) (b1 b2 : Nat) : Prop where
  below : ∀ T w, I T w → Below B w0 w
  like : ∀ T (w w' : World), I T w → w'.heap = w.heap → w'.os = w.os → w'.tape = w.tape → w'.output = w.output → I T w'
  step : ∀ T s (X Y : Bool) (w : World), T.length ≤ 2200000 → I T w → Calls Tryd.prog 77 #[txt s, .bool X, .bool Y, .pointer (some ⟨b1, 0, none⟩), .pointer (some ⟨b2, 0, none⟩)] w fun e w' => e = .returned (.tuple #[]) ∧ Hid (I (T ++ [(s, X, Y)]) w')
set_option maxHeartbeats 4000000 in
set_option maxRecDepth 100000 in
theorem along_P (p : Option Addr) (c : Nat) (a : Row) (p' : Option Addr) (c' : Nat) (b : Row) (B : Nat) (w0 w : World) (I : List Told → World → Prop) (b1 b2 : Nat) (ha : Rd w0 p c a) (hb : Rd w0 p' c' b) (hB : w0.heap.size ≤ B) (hV : InvP B w0 I b1 b2) (hI : I [] w)
    (hla : a.length ≤ 1100000) (hlb : b.length ≤ 1100000) :
    Calls Tryd.prog 76 #[.slice p a.length c, .slice p' b.length c', .func (.func 77) #[] #[.pointer (some ⟨b1, 0, none⟩), .pointer (some ⟨b2, 0, none⟩)]] w fun e w' => e = .returned (.tuple #[]) ∧ Hid (I (side (a.length + b.length) a b) w') := by
  obtain ⟨R, hR⟩ : ∃ R, side (a.length + b.length) a b = R := ⟨_, rfl⟩
  rw [hR]
  obtain ⟨n, hn⟩ : ∃ n, a.length = n := ⟨_, rfl⟩
  obtain ⟨m, hm⟩ : ∃ m, b.length = m := ⟨_, rfl⟩
  rw [hn, hm]
  have HA := hid ha
  have HB := hid hb
  have HV := hid hV
  have HI := hid hI
  have HR := hid hR
  have HN := hid hn
  have HM := hid hm
  have hnz : (n : Int) ≤ 1100000 := by omega
  have hmz : (m : Int) ≤ 1100000 := by omega
  clear ha hb hV hI hR hn hm hla hlb
  go_enter Tryd.func76, Tryd.ntmps76
  go_wp2_with fail
  go_loopw [0, 1] (fun v0 v1 W => ∃ (n m : Nat) (pa pb : Option Addr) (ca cb : Nat) (a' b' : Row) (T : List Told), v0 = .slice pa n ca ∧ v1 = .slice pb m cb ∧ (n : Int) ≤ 1100000 ∧ (m : Int) ≤ 1100000 ∧ Hid (a'.length = n ∧ b'.length = m ∧ T.length + (n + m) ≤ 2200000) ∧ Hid (Rd w0 pa ca a') ∧ Hid (Rd w0 pb cb b') ∧ Hid (T ++ side (n + m) a' b' = R) ∧ Hid (I T W)) (fun v0 v1 _ => lenOf v0 + lenOf v1)
  case atStart => exact ⟨n, m, _, _, _, _, a, b, [], rfl, rfl, hnz, hmz, ⟨HN.out, HM.out, by simp; omega⟩, HA.out, HB.out, by rw [← HR.out, HN.out, HM.out]; rfl, HI.out⟩
  case round =>
    clear HN HM HA HB HR HI hnz hmz
    obtain ⟨n, m, pa, pb, ca, cb, a', b', T, rfl, rfl, hnz, hmz, HL, HA, HB, HT, HI⟩ := hrel
    cases a' with
    | nil =>
      obtain rfl : n = 0 := by have := HL.out.1; simpa using this.symm
      cases b' with
      | nil =>
        obtain rfl : m = 0 := by have := HL.out.2.1; simpa using this.symm
        have HT2 : Hid (T = R) := by rw [Hid, ← HT.out]; simp [side]
        go_wp2_with fail
        go_end0
        exact ⟨rfl, by rw [← HT2.out]; exact HI.out⟩
      | cons y b' =>
        obtain ⟨k, rfl⟩ : ∃ k, m = k + 1 := ⟨b'.length, by have := HL.out.2.1; simpa using this.symm⟩
        have HL2 : Hid (b'.length = k ∧ T.length + (k + 1) ≤ 2200000) := ⟨by have := HL.out.2.1; simpa using this, by have := HL.out.2.2; omega⟩
        obtain ⟨g, o, rfl, hg, hc, A, hA, hr⟩ := HB.out.rest
        have hlb := HB.out.cap
        have hx : wr.cell? ⟨g, o, none⟩ = some (txt y) := cell_turn hc ((HV.out.below _ _ HI.out).block g (by omega))
        have HRr := hid hr
        have HT2 : Hid (T ++ [(y, false, true)] ++ side (0 + k) [] b' = R) := by rw [Hid, ← HT.out, show 0 + (k + 1) = (0 + k) + 1 by omega, side]; simp
        have hkc : k + 1 ≤ cb := by have := HL2.out.1; simp at hlb; omega
        have hkz : ((k : Int) + 1 == 0) = false := by rw [beq_eq_false_iff_ne]; omega
        clear hc hr HB HT HL hlb hg
        go_wp2_with fail
        go_quiet (fail)
        go_wp2_with fail
        go_quiet (fail)
        go_wp2_with fail
        go_quiet (fail)
        go_wp2_with fail
        refine Calls.mono (HV.out.step T y false true _ ?hl ?hi) ?_
        case hl => have := HL2.out.2; omega
        case hi => exact HV.out.like _ _ _ HI.out rfl rfl rfl rfl
        rintro e w2 ⟨rfl, hI2⟩
        go_wp2_with fail
        exact ⟨⟨0, k, pa, some A, ca, cb - 1, [], b', _, rfl, by go_num, by decide, by omega, ⟨rfl, HL2.out.1, by have := HL2.out.2; simp; omega⟩, HA.out, HRr.out, HT2.out, hI2.out⟩, by simp [lenOf]⟩
    | cons x a' =>
      obtain ⟨j, rfl⟩ : ∃ j, n = j + 1 := ⟨a'.length, by have := HL.out.1; simpa using this.symm⟩
      obtain ⟨g, o, rfl, hg, hc, A, hA, hr⟩ := HA.out.rest
      have hla := HA.out.cap
      have hx : wr.cell? ⟨g, o, none⟩ = some (txt x) := cell_turn hc ((HV.out.below _ _ HI.out).block g (by omega))
      have HRa := hid hr
      have hjc : j + 1 ≤ ca := by have := HL.out.1; simp at hla this; omega
      have hjz : ((j : Int) + 1 == 0) = false := by rw [beq_eq_false_iff_ne]; omega
      clear hc hr hla hg
      cases b' with
      | nil =>
        obtain rfl : m = 0 := by have := HL.out.2.1; simpa using this.symm
        have HL2 : Hid (a'.length = j ∧ T.length + (j + 1) ≤ 2200000) := ⟨by have := HL.out.1; simpa using this, by have := HL.out.2.2; omega⟩
        have HT2 : Hid (T ++ [(x, true, false)] ++ side (j + 0) a' [] = R) := by rw [Hid, ← HT.out, show j + 1 + 0 = (j + 0) + 1 by omega, side]; simp
        clear HT HL HA
        go_wp2_with fail
        go_quiet (fail)
        go_wp2_with fail
        go_quiet (fail)
        go_wp2_with fail
        go_quiet (fail)
        go_wp2_with fail
        refine Calls.mono (HV.out.step T x true false _ ?hl ?hi) ?_
        case hl => have := HL2.out.2; omega
        case hi => exact HV.out.like _ _ _ HI.out rfl rfl rfl rfl
        rintro e w2 ⟨rfl, hI2⟩
        go_wp2_with fail
        exact ⟨⟨j, 0, some A, pb, ca - 1, cb, a', [], _, by go_num, rfl, by omega, by decide, ⟨HL2.out.1, rfl, by have := HL2.out.2; simp; omega⟩, HRa.out, HB.out, HT2.out, hI2.out⟩, by simp [lenOf]⟩
      | cons y b' =>
        obtain ⟨k, rfl⟩ : ∃ k, m = k + 1 := ⟨b'.length, by have := HL.out.2.1; simpa using this.symm⟩
        have HL2 : Hid (a'.length = j ∧ b'.length = k ∧ T.length + (j + 1 + (k + 1)) ≤ 2200000) := ⟨by have := HL.out.1; simpa using this, by have := HL.out.2.1; simpa using this, HL.out.2.2⟩
        obtain ⟨g', o', rfl, hg', hc', A', hA', hr'⟩ := HB.out.rest
        have HAA := hid hA
        have HAB := hid hA'
        have hlb := HB.out.cap
        have hy : wr.cell? ⟨g', o', none⟩ = some (txt y) := cell_turn hc' ((HV.out.below _ _ HI.out).block g' (by omega))
        have HRb := hid hr'
        have hkc : k + 1 ≤ cb := by have := HL2.out.2.1; simp at hlb; omega
        have hkz : ((k : Int) + 1 == 0) = false := by rw [beq_eq_false_iff_ne]; omega
        have HT1 := HT.out
        rw [show j + 1 + (k + 1) = (j + 1 + k) + 1 by omega, side] at HT1
        clear hc' hr' hlb hg' HL HT hA hA'
        by_cases h1 : x < y
        · rw [if_pos h1] at HT1
          have HT2 : Hid (T ++ [(x, true, false)] ++ side (j + (k + 1)) a' (y :: b') = R) := by rw [Hid, ← HT1, show j + (k + 1) = j + 1 + k by omega]; simp
          have e1 : Op.bytesLess x y = true := by rw [bytesLess_eq]; exact decide_eq_true h1
          have e2 : Op.bytesLess y x = false := by rw [bytesLess_eq]; exact decide_eq_false (nm_lt_asymm h1)
          have e3 : (y == x) = false := beq_eq_false_iff_ne.2 (fun e => by rw [e] at h1; exact nm_lt_irrefl _ h1)
          clear HT1 h1 HA HAB
          have hA := HAA.out
          clear HAA
          go_wp2_with fail
          go_quiet (fail)
          go_wp2_with fail
          go_quiet (fail)
          go_wp2_with fail
          go_quiet (fail)
          go_wp2_with fail
          refine Calls.mono (HV.out.step T x true false _ ?hl ?hi) ?_
          case hl => have := HL2.out.2; omega
          case hi => exact HV.out.like _ _ _ HI.out rfl rfl rfl rfl
          rintro e w2 ⟨rfl, hI2⟩
          go_wp2_with fail
          exact ⟨⟨j, k + 1, some A, _, ca - 1, cb, a', y :: b', _, by go_num, rfl, by omega, by omega, ⟨HL2.out.1, by simpa using HL2.out.2.1, by have := HL2.out.2.2; simp; omega⟩, HRa.out, HB.out, HT2.out, hI2.out⟩, by simp [lenOf]⟩
        · rw [if_neg h1] at HT1
          by_cases h2 : y < x
          · rw [if_pos h2] at HT1
            have HT2 : Hid (T ++ [(y, false, true)] ++ side (j + 1 + k) (x :: a') b' = R) := by rw [Hid, ← HT1]; simp
            have e1 : Op.bytesLess y x = true := by rw [bytesLess_eq]; exact decide_eq_true h2
            have e2 : Op.bytesLess x y = false := by rw [bytesLess_eq]; exact decide_eq_false h1
            have e3 : (x == y) = false := beq_eq_false_iff_ne.2 (fun e => by rw [e] at h2; exact nm_lt_irrefl _ h2)
            clear HT1 h1 h2 HB HAA
            have hA' := HAB.out
            clear HAB
            go_wp2_with fail
            go_quiet (fail)
            go_wp2_with fail
            go_quiet (fail)
            go_wp2_with fail
            go_quiet (fail)
            go_wp2_with fail
            refine Calls.mono (HV.out.step T y false true _ ?hl ?hi) ?_
            case hl => have := HL2.out.2; omega
            case hi => exact HV.out.like _ _ _ HI.out rfl rfl rfl rfl
            rintro e w2 ⟨rfl, hI2⟩
            go_wp2_with fail
            exact ⟨⟨j + 1, k, _, some A', ca, cb - 1, x :: a', b', _, rfl, by go_num, by omega, by omega, ⟨by simpa using HL2.out.1, HL2.out.2.1, by have := HL2.out.2.2; simp; omega⟩, HA.out, HRb.out, HT2.out, hI2.out⟩, by simp [lenOf]⟩
          · rw [if_neg h2] at HT1
            have e1 : Op.bytesLess y x = false := by rw [bytesLess_eq]; exact decide_eq_false h2
            have e2 : Op.bytesLess x y = false := by rw [bytesLess_eq]; exact decide_eq_false h1
            have HT2 : Hid (T ++ [(y, true, true)] ++ side (j + k) a' b' = R) := by rw [Hid, ← HT1, side_room (j + 1 + k) (j + k) a' b' (by have := HL2.out; omega) (by have := HL2.out; omega)]; simp
            obtain rfl : x = y := by
              rcases nm_lt_or x y with g | g | g
              · exact absurd g h1
              · exact g
              · exact absurd g h2
            have e3 : (x == x) = true := beq_self_eq_true x
            clear HT1 h1 h2 HB HA
            go_wp2_with fail
            go_quiet (fail)
            go_wp2_with fail
            go_quiet (fail)
            go_wp2_with fail
            have hA := HAA.out
            go_quiet (fail)
            go_wp2_with fail
            clear hA
            have hA' := HAB.out
            go_quiet (fail)
            go_wp2_with fail
            refine Calls.mono (HV.out.step T x true true _ ?hl ?hi) ?_
            case hl => have := HL2.out.2; omega
            case hi => exact HV.out.like _ _ _ HI.out rfl rfl rfl rfl
            rintro e w2 ⟨rfl, hI2⟩
            go_wp2_with fail
            exact ⟨⟨j, k, some A, some A', ca - 1, cb - 1, a', b', _, by go_num, by go_num, by omega, by omega, ⟨HL2.out.1, HL2.out.2.1, by have := HL2.out.2.2; simp; omega⟩, HRa.out, HRb.out, HT2.out, hI2.out⟩, by simp [lenOf]; omega⟩

end Go.Proofs.YtppgifaegnmciaaDoor
