/- SeAlong, SePick. -/
import Derived.WalkLawsBesides
import Derived.Test.YtcbncdigejjcpaaGreatDoorM01
import Derived.Test.YtcbncdigejjcpaaGreatDoorM07
namespace Go.Proofs.YtcbncdigejjcpaaGreatDoor
open Go.RowKit

def lenOf : Value → Nat
  | .slice _ n _ => n
  | _ => 0
/-- a row without its first text -/
theorem Rd.rest {w : World} {p : Option Addr} {c : Nat} {x : Nm} {l : Row} (h : Rd w p c (x :: l)) : ∃ g o, p = some ⟨g, o, none⟩ ∧ g < w.heap.size ∧ w.cell? ⟨g, o, none⟩ = some (txt x) ∧
    ∃ A : Addr, (if c = 1 then some (⟨g, o, none⟩ : Addr) else some ⟨g, o + 1, none⟩) = some A ∧ Rd w (some A) (c - 1) l := by
  obtain ⟨g, o, rfl, hc⟩ := h.strs (by simp)
  have h0 := hc 0 (by simp)
  refine ⟨g, o, rfl, block_lt_of_cell h0, h0, ?_⟩
  have hl : l.length + 1 ≤ c := by have := h.cap; simpa using this
  by_cases e : c = 1
  · have hn : l = [] := List.length_eq_zero_iff.1 (by omega)
    subst hn
    exact ⟨_, if_pos e, fun h => absurd rfl h, fun h => (by cases h), by simp⟩
  · refine ⟨_, if_neg e, fun _ => ⟨g, o + 1, rfl, fun i hi => ?_⟩, fun h => (by cases h), by omega⟩
    have := hc (i + 1) (by simp; omega)
    rw [show o + 1 + i = o + (i + 1) by omega]
    simpa using this
/-- the room is not seen -/
theorem side_room : ∀ (n m : Nat) (a b : List Nm), a.length + b.length ≤ n → a.length + b.length ≤ m → side n a b = side m a b
  | 0, 0, _, _, _, _ => rfl
  | 0, m + 1, [], [], _, _ => rfl
  | 0, m + 1, x :: a, _, h, _ => by simp at h
  | 0, m + 1, [], y :: b, h, _ => by simp at h
  | n + 1, 0, [], [], _, _ => rfl
  | n + 1, 0, x :: a, _, _, h => by simp at h
  | n + 1, 0, [], y :: b, _, h => by simp at h
  | n + 1, m + 1, [], [], _, _ => rfl
  | n + 1, m + 1, x :: a, [], h, k => by rw [side, side, side_room n m a [] (by simp at h ⊢; omega) (by simp at k ⊢; omega)]
  | n + 1, m + 1, [], y :: b, h, k => by rw [side, side, side_room n m [] b (by simp at h ⊢; omega) (by simp at k ⊢; omega)]
  | n + 1, m + 1, x :: a, y :: b, h, k => by
    rw [side, side, side_room n m a (y :: b) (by simp at h ⊢; omega) (by simp at k ⊢; omega), side_room n m (x :: a) b (by simp at h ⊢; omega) (by simp at k ⊢; omega), side_room n m a b (by simp at h ⊢; omega) (by simp at k ⊢; omega)]
/-- what holds of what was told, and is left alone by draws -/
structure InvP (B : Nat) (w0 : World) (I : List Told → World → Prop) (b1 b2 : Nat) : Prop where
  below : ∀ T w, I T w → Below B w0 w
  like : ∀ T (w w' : World), I T w → w'.heap = w.heap → w'.os = w.os → w'.tape = w.tape → w'.output = w.output → I T w'
  step : ∀ T s (X Y : Bool) (w : World), T.length ≤ 2200000 → I T w → Calls Tryz.prog 214 #[txt s, .bool X, .bool Y, .pointer (some ⟨b1, 0, none⟩), .pointer (some ⟨b2, 0, none⟩)] w fun e w' => e = .returned (.tuple #[]) ∧ Hid (I (T ++ [(s, X, Y)]) w')
set_option maxHeartbeats 4000000 in
set_option maxRecDepth 100000 in
theorem along_P (p : Option Addr) (c : Nat) (a : Row) (p' : Option Addr) (c' : Nat) (b : Row) (B : Nat) (w0 w : World) (I : List Told → World → Prop) (b1 b2 : Nat) (ha : Rd w0 p c a) (hb : Rd w0 p' c' b) (hB : w0.heap.size ≤ B) (hV : InvP B w0 I b1 b2) (hI : I [] w)
    (hla : a.length ≤ 1100000) (hlb : b.length ≤ 1100000) :
    Calls Tryz.prog 213 #[.slice p a.length c, .slice p' b.length c', .func (.func 214) #[] #[.pointer (some ⟨b1, 0, none⟩), .pointer (some ⟨b2, 0, none⟩)]] w fun e w' => e = .returned (.tuple #[]) ∧ Hid (I (side (a.length + b.length) a b) w') := by
  obtain ⟨R, hR⟩ : ∃ R, side (a.length + b.length) a b = R := ⟨_, rfl⟩
  rw [hR]
  obtain ⟨n, hn⟩ : ∃ n, a.length = n := ⟨_, rfl⟩
  obtain ⟨m, hm⟩ : ∃ m, b.length = m := ⟨_, rfl⟩
  rw [hn, hm]
  have HA := hid ha
  have HB := hid hb
  have HV := hid hV
  have HI := hid hI
  have HR := hid hR
  have HN := hid hn
  have HM := hid hm
  have hnz : (n : Int) ≤ 1100000 := by omega
  have hmz : (m : Int) ≤ 1100000 := by omega
  clear ha hb hV hI hR hn hm hla hlb
  go_enter Tryz.func213, Tryz.ntmps213
  go_wp2_with fail
  go_loopw [0, 1] (fun v0 v1 W => ∃ (n m : Nat) (pa pb : Option Addr) (ca cb : Nat) (a' b' : Row) (T : List Told), v0 = .slice pa n ca ∧ v1 = .slice pb m cb ∧ (n : Int) ≤ 1100000 ∧ (m : Int) ≤ 1100000 ∧ Hid (a'.length = n ∧ b'.length = m ∧ T.length + (n + m) ≤ 2200000) ∧ Hid (Rd w0 pa ca a') ∧ Hid (Rd w0 pb cb b') ∧ Hid (T ++ side (n + m) a' b' = R) ∧ Hid (I T W)) (fun v0 v1 _ => lenOf v0 + lenOf v1)
  case atStart => exact ⟨n, m, _, _, _, _, a, b, [], rfl, rfl, hnz, hmz, ⟨HN.out, HM.out, by simp; omega⟩, HA.out, HB.out, by rw [← HR.out, HN.out, HM.out]; rfl, HI.out⟩
  case round =>
    clear HN HM HA HB HR HI hnz hmz
    obtain ⟨n, m, pa, pb, ca, cb, a', b', T, rfl, rfl, hnz, hmz, HL, HA, HB, HT, HI⟩ := hrel
    cases a' with
    | nil =>
      obtain rfl : n = 0 := by have := HL.out.1; simpa using this.symm
      cases b' with
      | nil =>
        obtain rfl : m = 0 := by have := HL.out.2.1; simpa using this.symm
        have HT2 : Hid (T = R) := by rw [Hid, ← HT.out]; simp [side]
        go_wp2_with fail
        go_end0
        exact ⟨rfl, by rw [← HT2.out]; exact HI.out⟩
      | cons y b' =>
        obtain ⟨k, rfl⟩ : ∃ k, m = k + 1 := ⟨b'.length, by have := HL.out.2.1; simpa using this.symm⟩
        have HL2 : Hid (b'.length = k ∧ T.length + (k + 1) ≤ 2200000) := ⟨by have := HL.out.2.1; simpa using this, by have := HL.out.2.2; omega⟩
        obtain ⟨g, o, rfl, hg, hc, A, hA, hr⟩ := HB.out.rest
        have hlb := HB.out.cap
        have hx : wr.cell? ⟨g, o, none⟩ = some (txt y) := cell_turn hc ((HV.out.below _ _ HI.out).block g (by omega))
        have HRr := hid hr
        have HT2 : Hid (T ++ [(y, false, true)] ++ side (0 + k) [] b' = R) := by rw [Hid, ← HT.out, show 0 + (k + 1) = (0 + k) + 1 by omega, side]; simp
        have hkc : k + 1 ≤ cb := by have := HL2.out.1; simp at hlb; omega
        have hkz : ((k : Int) + 1 == 0) = false := by rw [beq_eq_false_iff_ne]; omega
        clear hc hr HB HT HL hlb hg
        go_wp2_with fail
        go_quiet (fail)
        go_wp2_with fail
        go_quiet (fail)
        go_wp2_with fail
        go_quiet (fail)
        go_wp2_with fail
        refine Calls.mono (HV.out.step T y false true _ ?hl ?hi) ?_
        case hl => have := HL2.out.2; omega
        case hi => exact HV.out.like _ _ _ HI.out rfl rfl rfl rfl
        rintro e w2 ⟨rfl, hI2⟩
        go_wp2_with fail
        exact ⟨⟨0, k, pa, some A, ca, cb - 1, [], b', _, rfl, by go_num, by decide, by omega, ⟨rfl, HL2.out.1, by have := HL2.out.2; simp; omega⟩, HA.out, HRr.out, HT2.out, hI2.out⟩, by simp [lenOf]⟩
    | cons x a' =>
      obtain ⟨j, rfl⟩ : ∃ j, n = j + 1 := ⟨a'.length, by have := HL.out.1; simpa using this.symm⟩
      obtain ⟨g, o, rfl, hg, hc, A, hA, hr⟩ := HA.out.rest
      have hla := HA.out.cap
      have hx : wr.cell? ⟨g, o, none⟩ = some (txt x) := cell_turn hc ((HV.out.below _ _ HI.out).block g (by omega))
      have HRa := hid hr
      have hjc : j + 1 ≤ ca := by have := HL.out.1; simp at hla this; omega
      have hjz : ((j : Int) + 1 == 0) = false := by rw [beq_eq_false_iff_ne]; omega
      clear hc hr hla hg
      cases b' with
      | nil =>
        obtain rfl : m = 0 := by have := HL.out.2.1; simpa using this.symm
        have HL2 : Hid (a'.length = j ∧ T.length + (j + 1) ≤ 2200000) := ⟨by have := HL.out.1; simpa using this, by have := HL.out.2.2; omega⟩
        have HT2 : Hid (T ++ [(x, true, false)] ++ side (j + 0) a' [] = R) := by rw [Hid, ← HT.out, show j + 1 + 0 = (j + 0) + 1 by omega, side]; simp
        clear HT HL HA
        go_wp2_with fail
        go_quiet (fail)
        go_wp2_with fail
        go_quiet (fail)
        go_wp2_with fail
        go_quiet (fail)
        go_wp2_with fail
        refine Calls.mono (HV.out.step T x true false _ ?hl ?hi) ?_
        case hl => have := HL2.out.2; omega
        case hi => exact HV.out.like _ _ _ HI.out rfl rfl rfl rfl
        rintro e w2 ⟨rfl, hI2⟩
        go_wp2_with fail
        exact ⟨⟨j, 0, some A, pb, ca - 1, cb, a', [], _, by go_num, rfl, by omega, by decide, ⟨HL2.out.1, rfl, by have := HL2.out.2; simp; omega⟩, HRa.out, HB.out, HT2.out, hI2.out⟩, by simp [lenOf]⟩
      | cons y b' =>
        obtain ⟨k, rfl⟩ : ∃ k, m = k + 1 := ⟨b'.length, by have := HL.out.2.1; simpa using this.symm⟩
        have HL2 : Hid (a'.length = j ∧ b'.length = k ∧ T.length + (j + 1 + (k + 1)) ≤ 2200000) := ⟨by have := HL.out.1; simpa using this, by have := HL.out.2.1; simpa using this, HL.out.2.2⟩
        obtain ⟨g', o', rfl, hg', hc', A', hA', hr'⟩ := HB.out.rest
        have HAA := hid hA
        have HAB := hid hA'
        have hlb := HB.out.cap
        have hy : wr.cell? ⟨g', o', none⟩ = some (txt y) := cell_turn hc' ((HV.out.below _ _ HI.out).block g' (by omega))
        have HRb := hid hr'
        have hkc : k + 1 ≤ cb := by have := HL2.out.2.1; simp at hlb; omega
        have hkz : ((k : Int) + 1 == 0) = false := by rw [beq_eq_false_iff_ne]; omega
        have HT1 := HT.out
        rw [show j + 1 + (k + 1) = (j + 1 + k) + 1 by omega, side] at HT1
        clear hc' hr' hlb hg' HL HT hA hA'
        by_cases h1 : x < y
        · rw [if_pos h1] at HT1
          have HT2 : Hid (T ++ [(x, true, false)] ++ side (j + (k + 1)) a' (y :: b') = R) := by rw [Hid, ← HT1, show j + (k + 1) = j + 1 + k by omega]; simp
          have e1 : Op.bytesLess x y = true := by rw [bytesLess_eq]; exact decide_eq_true h1
          have e2 : Op.bytesLess y x = false := by rw [bytesLess_eq]; exact decide_eq_false (nm_lt_asymm h1)
          have e3 : (y == x) = false := beq_eq_false_iff_ne.2 (fun e => by rw [e] at h1; exact nm_lt_irrefl _ h1)
          clear HT1 h1 HA HAB
          have hA := HAA.out
          clear HAA
          go_wp2_with fail
          go_quiet (fail)
          go_wp2_with fail
          go_quiet (fail)
          go_wp2_with fail
          go_quiet (fail)
          go_wp2_with fail
          refine Calls.mono (HV.out.step T x true false _ ?hl ?hi) ?_
          case hl => have := HL2.out.2; omega
          case hi => exact HV.out.like _ _ _ HI.out rfl rfl rfl rfl
          rintro e w2 ⟨rfl, hI2⟩
          go_wp2_with fail
          exact ⟨⟨j, k + 1, some A, _, ca - 1, cb, a', y :: b', _, by go_num, rfl, by omega, by omega, ⟨HL2.out.1, by simpa using HL2.out.2.1, by have := HL2.out.2.2; simp; omega⟩, HRa.out, HB.out, HT2.out, hI2.out⟩, by simp [lenOf]⟩
        · rw [if_neg h1] at HT1
          by_cases h2 : y < x
          · rw [if_pos h2] at HT1
            have HT2 : Hid (T ++ [(y, false, true)] ++ side (j + 1 + k) (x :: a') b' = R) := by rw [Hid, ← HT1]; simp
            have e1 : Op.bytesLess y x = true := by rw [bytesLess_eq]; exact decide_eq_true h2
            have e2 : Op.bytesLess x y = false := by rw [bytesLess_eq]; exact decide_eq_false h1
            have e3 : (x == y) = false := beq_eq_false_iff_ne.2 (fun e => by rw [e] at h2; exact nm_lt_irrefl _ h2)
            clear HT1 h1 h2 HB HAA
            have hA' := HAB.out
            clear HAB
            go_wp2_with fail
            go_quiet (fail)
            go_wp2_with fail
            go_quiet (fail)
            go_wp2_with fail
            go_quiet (fail)
            go_wp2_with fail
            refine Calls.mono (HV.out.step T y false true _ ?hl ?hi) ?_
            case hl => have := HL2.out.2; omega
            case hi => exact HV.out.like _ _ _ HI.out rfl rfl rfl rfl
            rintro e w2 ⟨rfl, hI2⟩
            go_wp2_with fail
            exact ⟨⟨j + 1, k, _, some A', ca, cb - 1, x :: a', b', _, rfl, by go_num, by omega, by omega, ⟨by simpa using HL2.out.1, HL2.out.2.1, by have := HL2.out.2.2; simp; omega⟩, HA.out, HRb.out, HT2.out, hI2.out⟩, by simp [lenOf]⟩
          · rw [if_neg h2] at HT1
            have e1 : Op.bytesLess y x = false := by rw [bytesLess_eq]; exact decide_eq_false h2
            have e2 : Op.bytesLess x y = false := by rw [bytesLess_eq]; exact decide_eq_false h1
            have HT2 : Hid (T ++ [(y, true, true)] ++ side (j + k) a' b' = R) := by rw [Hid, ← HT1, side_room (j + 1 + k) (j + k) a' b' (by have := HL2.out; omega) (by have := HL2.out; omega)]; simp
            obtain rfl : x = y := by
              rcases nm_lt_or x y with g | g | g
              · exact absurd g h1
              · exact g
              · exact absurd g h2
            have e3 : (x == x) = true := beq_self_eq_true x
            clear HT1 h1 h2 HB HA
            go_wp2_with fail
            go_quiet (fail)
            go_wp2_with fail
            go_quiet (fail)
            go_wp2_with fail
            have hA := HAA.out
            go_quiet (fail)
            go_wp2_with fail
            clear hA
            have hA' := HAB.out
            go_quiet (fail)
            go_wp2_with fail
            refine Calls.mono (HV.out.step T x true true _ ?hl ?hi) ?_
            case hl => have := HL2.out.2; omega
            case hi => exact HV.out.like _ _ _ HI.out rfl rfl rfl rfl
            rintro e w2 ⟨rfl, hI2⟩
            go_wp2_with fail
            exact ⟨⟨j, k, some A, some A', ca - 1, cb - 1, a', b', _, by go_num, by go_num, by omega, by omega, ⟨HL2.out.1, HL2.out.2.1, by have := HL2.out.2.2; simp; omega⟩, HRa.out, HRb.out, HT2.out, hI2.out⟩, by simp [lenOf]; omega⟩

end Go.Proofs.YtcbncdigejjcpaaGreatDoor

namespace Go.Proofs.YtcbncdigejjcpaaGreatDoor
open Go.RowKit

/-- texts that may be written, in a block that came -/
def Lw (n : Nat) (w : World) (q : Option Addr) (l : Row) : Prop := l ≠ [] → ∃ g o, q = some ⟨g, o, none⟩ ∧ n ≤ g ∧ ∀ i, i < l.length → (∃ v, w.cell? ⟨g, o + i, none⟩ = some v) ∧ w.frozen? ⟨g, o + i, none⟩ = false
/-- a row of its own is told -/
abbrev TellsOwn (f : Nat) (args : Array Value) (w : World) (l : Row) : Prop := Calls Tryz.prog f args w fun e w' => ∃ q d, e = .returned (.slice q l.length d) ∧ Hid (Rd w' q d l ∧ Lw w.heap.size w' q l ∧ Below w.heap.size w w')
/-- what a closure says of both -/
def Want (K : Nat) (f : Bool → Bool → Bool) : Prop := (K = 172 ∨ K = 175 ∨ K = 171) ∧ ∀ (X Y : Bool) (w : World), Calls Tryz.prog K #[.bool X, .bool Y] w fun e w' => e = .returned (.bool (f X Y)) ∧ w' = w
theorem want_union : Want 172 (fun x y => x || y) := ⟨.inl rfl, fun X Y w => by
  cases X <;> cases Y
  all_goals
    go_enter Tryz.func172, Tryz.ntmps172
    go_wp2
    go_ret
    exact ⟨rfl, rfl⟩⟩
theorem want_less : Want 171 (fun x y => x && !y) := ⟨.inr (.inr rfl), fun X Y w => by
  cases X <;> cases Y
  all_goals
    go_enter Tryz.func171, Tryz.ntmps171
    go_wp2
    go_ret
    exact ⟨rfl, rfl⟩⟩
/-- what was picked so far -/
structure PI (w0 : World) (B K : Nat) (f : Bool → Bool → Bool) (T : List Told) (w : World) : Prop where
  below : Below B w0 w
  box : ∃ t, w.heap[B]? = some (.cells #[.func (.func K) #[] #[]] t (0, 0))
  set : ∃ v, w.heap[B + 1]? = some (.cells #[v] 23 (0, 0)) ∧ Own (B + 2) w v (pickd f T)
  size : B + 2 ≤ w.heap.size
theorem owns_like {w w' : World} {base : Nat} {e : TypeId} {size : Nat} {v : Value} {n : Nat} {xs : List Value} (h : w.ownsRow base e size v n xs) (hh : w'.heap = w.heap) : w'.ownsRow base e size v n xs := by
  unfold World.ownsRow at h ⊢
  rw [hh]
  exact h
theorem PI.like {w0 : World} {B K : Nat} {f : Bool → Bool → Bool} {T : List Told} {w w' : World} (h : PI w0 B K f T w) (h1 : w'.heap = w.heap) (h2 : w'.os = w.os) (h3 : w'.tape = w.tape) (h4 : w'.output = w.output) : PI w0 B K f T w' := by
  obtain ⟨k1, k2, ⟨v, k3, k4⟩, k5⟩ := h
  refine ⟨⟨h2.trans k1.os, h3.trans k1.tape, h4.trans k1.output, by rw [h1]; exact k1.size, fun k hk => by rw [h1]; exact k1.block k hk⟩, by rw [h1]; exact k2, ⟨v, by rw [h1]; exact k3, owns_like k4 h1⟩, by rw [h1]; exact k5⟩
/-- a text more is picked -/
theorem PI.put {w0 : World} {B K : Nat} {f : Bool → Bool → Bool} {T : List Told} {w w' : World} {v' : Value} {l : Row} (h : PI w0 B K f T w) (hb : Below (B + 2) w w') (ho : Own (B + 2) w' v' l) (T' : List Told) (hl : pickd f T' = l) : PI w0 B K f T' (w'.setCell ⟨B + 1, 0, none⟩ v') := by
  obtain ⟨k1, ⟨t, k2⟩, ⟨u, k3, k4⟩, k5⟩ := h
  have h1 : w'.heap[B + 1]? = some (.cells #[u] 23 (0, 0)) := (hb.block (B + 1) (by omega)).trans k3
  refine ⟨?_, ⟨t, ?_⟩, ⟨v', one_setCell h1, ?_⟩, ?_⟩
  · exact (k1.trans (hb.mono (by omega))).setCell (by show B ≤ B + 1; omega) _
  · rw [heap_setCell_other _ _ _ _ (by show B ≠ B + 1; omega)]
    exact (hb.block B (by omega)).trans k2
  · rw [hl]
    exact ownsRow_setCell_other ho (fun h => by
      have := (World.ownsRow.lt ho _ h).1
      have h2 : B + 2 ≤ B + 1 := this
      omega) _
  · have := hb.size
    simp
    omega
set_option maxHeartbeats 2000000 in
set_option maxRecDepth 100000 in
/-- the closure is told of a text -/
theorem tell_any {K : Nat} {f : Bool → Bool → Bool} (hK : Want K f) (w0 w : World) (B : Nat) (T : List Told) (s : Nm) (X Y : Bool) (hT : T.length ≤ 2200000) (h : PI w0 B K f T w) :
    Calls Tryz.prog 214 #[txt s, .bool X, .bool Y, .pointer (some ⟨B, 0, none⟩), .pointer (some ⟨B + 1, 0, none⟩)] w fun e w' => e = .returned (.tuple #[]) ∧ Hid (PI w0 B K f (T ++ [(s, X, Y)]) w') := by
  obtain ⟨t, hb⟩ := h.box
  obtain ⟨v, hv, ho⟩ := h.set
  have c0 := cell_of_one hb
  have c1 := cell_of_one hv
  have H := hid h
  have HK := hid hK.2
  have hlen := pickd_len f T
  obtain ⟨v', W', hrun, ho', hbl⟩ := ho.push h.size s (by omega)
  have HR := hid hrun
  have HO := hid ho'
  have HB := hid hbl
  have hw1 : W'.heap[B + 1]? = some (.cells #[v] 23 (0, 0)) := (hbl.block (B + 1) (by omega)).trans hv
  have c2 := cell_of_one hw1
  have f2 := free_of_one hw1
  obtain ⟨p, c, hsh, hcap⟩ := ho'.shape
  obtain ⟨N, hN⟩ : ∃ N, (pickd f T ++ [s]).length = N := ⟨_, rfl⟩
  rw [hN] at hsh
  clear hcap hN
  subst hsh
  have hKs := hK.1
  clear hK h hb hv ho hrun ho' hbl hw1 hlen hT
  cases hf : f X Y with
  | false =>
    have HE := hid (H.out.like rfl rfl rfl rfl (w' := w))
    have HP : Hid (pickd f (T ++ [(s, X, Y)]) = pickd f T) := pickd_no hf
    have HC := hid (HK.out X Y)
    rw [hf] at HC
    clear hf
    rcases hKs with rfl | rfl | rfl
    all_goals
      go_enter Tryz.func214, Tryz.ntmps214
      go_wp2_with fail
      refine (HC.out w).mono ?_; rintro e w1 ⟨rfl, rfl⟩
      go_wp2_with fail
      go_end0
      refine ⟨rfl, H.out.below, H.out.box, ?_, H.out.size⟩
      rw [HP.out]
      exact H.out.set
  | true =>
    have HE := hid (H.out.put HB.out HO.out (T ++ [(s, X, Y)]) (pickd_yes hf))
    have HC := hid (HK.out X Y)
    rw [hf] at HC
    clear hf
    rcases hKs with rfl | rfl | rfl
    all_goals
      go_enter Tryz.func214, Tryz.ntmps214
      go_wp2_with fail
      refine (HC.out w).mono ?_; rintro e w1 ⟨rfl, rfl⟩
      go_wp2_with (refine wpList_append_runs rfl _ _ 23 23 rfl _ _ _ _ rfl rfl HR.out (Hid.out ?_))
      refine hid ?_
      go_wp2_with fail
      go_end0
      exact ⟨rfl, HE.out⟩
theorem pi_start (w : World) (K : Nat) (f : Bool → Bool → Bool) (t : TypeId) : PI w w.heap.size K f [] ((w.alloc (.cells #[.func (.func K) #[] #[]] t)).alloc (.cells #[.slice none 0 0] 23)) := by
  have h1 := below_alloc w (.cells #[.func (.func K) #[] #[]] t)
  have h2 := below_alloc (w.alloc (.cells #[.func (.func K) #[] #[]] t)) (.cells #[.slice none 0 0] 23)
  have hs : (w.alloc (.cells #[.func (.func K) #[] #[]] t)).heap.size = w.heap.size + 1 := by simp
  refine ⟨h1.trans (h2.mono h1.size), ⟨t, ?_⟩, ⟨.slice none 0 0, ?_, ?_⟩, ?_⟩
  · rw [h2.block w.heap.size (by rw [hs]; omega)]
    exact heap_alloc_new w _
  · have := heap_alloc_new (w.alloc (.cells #[.func (.func K) #[] #[]] t)) (.cells #[.slice none 0 0] 23)
    rw [hs] at this
    exact this
  · exact ⟨by simp [pickd], .inl ⟨rfl, rfl⟩⟩
  · simp
theorem Own.lw {B n : Nat} {w : World} {p : Option Addr} {m c : Nat} {l : Row} (h : Own B w (.slice p m c) l) (hn : n ≤ B) : Lw n w p l := fun hne => by
  have hp : 0 < l.length := List.length_pos_iff.2 hne
  rcases h.2 with ⟨h1, h0⟩ | ⟨g, cap, cur, h1, hg, hc, hnc, _⟩
  · omega
  · injection h1 with e1 e2 e3
    subst e1 e2 e3
    refine ⟨g, 0, rfl, by omega, fun i hi => ⟨⟨txt l[i], ?_⟩, ?_⟩⟩
    · have := World.ownsRow.cells h (g := g) rfl i (txt l[i]) (by simp [hi])
      rw [Go.WideShapes.add_plain] at this
      exact this
    · exact World.ownsRow.frozenAt h _
set_option maxHeartbeats 1000000 in
set_option maxRecDepth 100000 in
/-- pick -/
theorem pick_any {K : Nat} {f : Bool → Bool → Bool} (hK : Want K f) (p : Option Addr) (c : Nat) (a : Row) (p' : Option Addr) (c' : Nat) (b : Row) (w : World) (ha : Rd w p c a) (hb : Rd w p' c' b) (hla : a.length ≤ 1100000) (hlb : b.length ≤ 1100000) (L : Row) (hL : pickd f (side (a.length + b.length) a b) = L) :
    TellsOwn 170 #[.slice p a.length c, .slice p' b.length c', .func (.func K) #[] #[]] w L := by
  have HV : Hid (InvP w.heap.size w (PI w w.heap.size K f) w.heap.size (w.heap.size + 1)) := ⟨fun T w h => h.below, fun T w w' h h1 h2 h3 h4 => h.like h1 h2 h3 h4, fun T s X Y w1 hT h => tell_any hK w w1 _ T s X Y hT h⟩
  have HAl := hid fun (t : TypeId) => along_P p c a p' c' b w.heap.size w _ (PI w w.heap.size K f) _ _ ha hb (Nat.le_refl _) HV.out (pi_start w K f t) hla hlb
  have HL := hid hL
  generalize side (a.length + b.length) a b = R at *
  generalize a.length = n at *
  generalize b.length = m at *
  clear hL HV ha hb hK hla hlb
  go_enter Tryz.func170, Tryz.ntmps170
  go_wp2_with fail
  refine (HAl.out _).mono ?_; rintro e w1 ⟨rfl, hI⟩
  obtain ⟨v, hv, ho⟩ := hI.out.set
  have HB := hid hI.out.below
  have c1 := cell_of_one hv
  rw [HL.out] at ho
  obtain ⟨q, d, hsh, _⟩ := ho.shape
  subst hsh
  have HO := hid ho
  clear HAl hv ho hI
  go_wp2_with fail
  go_ret
  exact ⟨q, d, rfl, HO.out.rd, HO.out.lw (by omega), HB.out⟩
set_option maxHeartbeats 1000000 in
/-- Union -/
theorem union_own (p : Option Addr) (c : Nat) (a : Row) (p' : Option Addr) (c' : Nat) (b : Row) (w : World) (ha : Rd w p c a) (hb : Rd w p' c' b) (hla : a.length ≤ 1100000) (hlb : b.length ≤ 1100000) (L : Row) (hL : pickd (fun x y => x || y) (side (a.length + b.length) a b) = L) :
    TellsOwn 102 #[.slice p a.length c, .slice p' b.length c'] w L := by
  have HP := hid (pick_any want_union p c a p' c' b w ha hb hla hlb L hL)
  clear hL ha hb hla hlb
  generalize a.length = n at *
  generalize b.length = m at *
  go_enter Tryz.func102, Tryz.ntmps102
  go_wp2_with fail
  refine HP.out.mono ?_; rintro e w1 ⟨q, d, rfl, hh⟩
  go_wp2_with fail
  go_ret
  exact ⟨q, d, rfl, hh.out⟩
theorem union_any (p : Option Addr) (c : Nat) (a : Row) (p' : Option Addr) (c' : Nat) (b : Row) (w : World) (ha : Rd w p c a) (hb : Rd w p' c' b) (hla : a.length ≤ 1100000) (hlb : b.length ≤ 1100000) (hra : Ris a) (hrb : Ris b) : TellsOwn 102 #[.slice p a.length c, .slice p' b.length c'] w (insAll a b) :=
  union_own p c a p' c' b w ha hb hla hlb _ ((side_spec _ a b (Nat.le_refl _) hra hrb).union hra)
set_option maxHeartbeats 1000000 in
/-- Less -/
theorem less_own (p : Option Addr) (c : Nat) (a : Row) (p' : Option Addr) (c' : Nat) (b : Row) (w : World) (ha : Rd w p c a) (hb : Rd w p' c' b) (hla : a.length ≤ 1100000) (hlb : b.length ≤ 1100000) (L : Row) (hL : pickd (fun x y => x && !y) (side (a.length + b.length) a b) = L) :
    TellsOwn 101 #[.slice p a.length c, .slice p' b.length c'] w L := by
  have HP := hid (pick_any want_less p c a p' c' b w ha hb hla hlb L hL)
  clear hL ha hb hla hlb
  generalize a.length = n at *
  generalize b.length = m at *
  go_enter Tryz.func101, Tryz.ntmps101
  go_wp2_with fail
  refine HP.out.mono ?_; rintro e w1 ⟨q, d, rfl, hh⟩
  go_wp2_with fail
  go_ret
  exact ⟨q, d, rfl, hh.out⟩
theorem less_any (p : Option Addr) (c : Nat) (a : Row) (p' : Option Addr) (c' : Nat) (b : Row) (w : World) (ha : Rd w p c a) (hb : Rd w p' c' b) (hla : a.length ≤ 1100000) (hlb : b.length ≤ 1100000) (hra : Ris a) (hrb : Ris b) : TellsOwn 101 #[.slice p a.length c, .slice p' b.length c'] w (less a b) :=
  less_own p c a p' c' b w ha hb hla hlb _ ((side_spec _ a b (Nat.le_refl _) hra hrb).less hra)

end Go.Proofs.YtcbncdigejjcpaaGreatDoor
