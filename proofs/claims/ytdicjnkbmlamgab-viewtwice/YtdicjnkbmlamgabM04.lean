/- VwModel. -/
import Derived.Test.YtdicjnkbmlamgabM01
namespace Go.Proofs.Ytdicjnkbmlamgab
open Slot

/-- a view: who knows it, each node's epoch, who owns each slot (64: nobody), the greatest epoch -/
structure Vw where
  self : Nat
  ep : Nat → Nat
  own : Nat → Nat
  cur : Nat
/-- the slots that a node owns -/
def Vw.cl (v : Vw) (n : Nat) : Nat → Bool := fun s => v.own s == n
/-- 2^62 -/
def big : Nat := 4611686018427387904
/-- P15.1 -/
def newV (self : Nat) (S : Nat → Bool) (e : Nat) : Vw := ⟨self, fun n => if n = self then e else 0, fun s => if S s then self else 64, e⟩
/-- P15.2 -/
def tellV (v : Vw) (kind : Int) : Pk := ⟨kind, v.self, 0, v.ep v.self, v.cur, v.cl v.self⟩
/-- of whom a packet tells -/
def ofN (p : Pk) : Nat := if p.kind = 3 then p.of_.toNat else p.frm.toNat
/-- is it looked at? -/
def seen (v : Vw) (p : Pk) : Bool := rightP p && decide (p.cur ≤ big) && decide (p.frm ≠ v.self) && !(decide (p.kind = 3) && decide (p.of_ = v.self))
/-- P15.3, 2 -/
def claimV (v : Vw) (n : Nat) (p : Pk) : Vw :=
  { v with
    ep := fun m => if m = n then p.epoch else v.ep m
    own := fun s => if p.cl s then (if v.own s = 64 ∨ v.own s = n ∨ v.ep (v.own s) < p.epoch then n else v.own s) else (if v.own s = n then 64 else v.own s) }
/-- P15.3, 3 -/
def raiseV (v : Vw) : Vw := { v with cur := v.cur + 1, ep := fun m => if m = v.self then v.cur + 1 else v.ep m }
def take1 (v : Vw) (p : Pk) : Vw := { v with cur := max v.cur p.cur }
def take2 (v : Vw) (p : Pk) : Vw := if (take1 v p).ep (ofN p) ≤ p.epoch then claimV (take1 v p) (ofN p) p else take1 v p
def take3 (v : Vw) (p : Pk) : Vw := if p.kind ≠ 3 ∧ p.epoch = (take2 v p).ep (take2 v p).self ∧ (take2 v p).self < ofN p then raiseV (take2 v p) else take2 v p
/-- P15.3: the view behind a packet -/
def takeV (v : Vw) (p : Pk) : Vw := if seen v p = true then take3 v p else v
/-- is this slot one that another one has at a greater epoch? -/
def worse (v : Vw) (p : Pk) (s : Nat) : Bool := p.cl s && decide (v.own s ≠ 64) && decide (v.own s ≠ p.frm.toNat) && decide (p.epoch < v.ep (v.own s))
/-- P15.3, 4: the owner of the first such slot from k on -/
def beatV (v : Vw) (p : Pk) : Nat → Nat → Option Nat
  | 0, _ => none
  | f + 1, k => if worse v p k = true then some (v.own k) else beatV v p f (k + 1)
def updV (v : Vw) (o : Nat) : Pk := ⟨3, v.self, o, v.ep o, v.cur, v.cl o⟩
def outV (v : Vw) (p : Pk) : List Pk := (if p.kind = 1 ∨ p.kind = 4 then [tellV v 2] else []) ++ (match beatV v p top 0 with
  | some o => [updV v o]
  | none => [])
/-- P15.3: what is answered -/
def answV (v : Vw) (p : Pk) : List Pk := if seen v p = true ∧ p.kind ≠ 3 then outV (takeV v p) p else []
/-- P15.4 -/
def ownV (v : Vw) (s n : Nat) : Vw := { v with own := fun t => if t = s then n else v.own t }
def winV (v : Vw) (s least : Nat) : Vw := raiseV { ownV v s v.self with cur := max v.cur least }
structure OpV where
  kind : Int
  slot : Int
  node : Int
  least : Nat
  p : Pk
def slotB (s : Int) : Bool := decide (0 ≤ s ∧ s < 16384)
def winE (s : Int) (least : Nat) : Int := if slotB s = true ∧ least ≤ big then 0 else 1
def giveE (s n : Int) : Int := if slotB s = true then (if 0 ≤ n ∧ n < 64 then 0 else 150) else 1
/-- the view behind a call -/
def doV (v : Vw) (o : OpV) : Vw :=
  if o.kind = 0 then takeV v o.p
  else if o.kind = 1 then (if winE o.slot o.least = 0 then winV v o.slot.toNat o.least else v)
  else if o.kind = 2 then (if giveE o.slot o.node = 0 then ownV v o.slot.toNat o.node.toNat else v)
  else v
def doA (v : Vw) (o : OpV) : List Pk := if o.kind = 0 then answV v o.p else []
def doE (o : OpV) : Int := if o.kind = 1 then winE o.slot o.least else if o.kind = 2 then giveE o.slot o.node else 0

/-- how views are: numbers of nodes are below 64, epochs not above the greatest -/
structure Vw.Ok (v : Vw) (k : Nat) : Prop where
  self : v.self < 64
  own : ∀ s, v.own s ≤ 64
  ep : ∀ n, v.ep n ≤ v.cur
  cur : v.cur ≤ big + k
theorem new_ok {self e : Nat} (S : Nat → Bool) (hs : self < 64) (he : e ≤ big) : (newV self S e).Ok 0 := by
  refine ⟨hs, fun s => ?_, fun n => ?_, by simpa [newV] using he⟩
  · show (if S s then self else 64) ≤ 64
    split <;> omega
  · show (if n = self then e else 0) ≤ e
    split <;> omega
theorem Vw.Ok.mono {v : Vw} {k m : Nat} (h : v.Ok k) (hm : k ≤ m) : v.Ok m := ⟨h.self, h.own, h.ep, Nat.le_trans h.cur (by omega)⟩
theorem right_of {p : Pk} (h : rightP p = true) : ofN p < 64 ∧ (p.frm.toNat : Int) = p.frm ∧ p.frm.toNat < 64 ∧ (p.of_.toNat : Int) = p.of_ ∧ p.epoch ≤ p.cur ∧ 1 ≤ p.kind ∧ p.kind ≤ 4 := by
  obtain ⟨h1, h2, h3, h4, h5⟩ := rightP_iff.1 h
  refine ⟨?_, by omega, by omega, by omega, h5, by omega, by omega⟩
  unfold ofN
  split <;> omega
theorem seen_right {v : Vw} {p : Pk} (h : seen v p = true) : rightP p = true ∧ p.cur ≤ big ∧ p.frm ≠ v.self ∧ ¬ (p.kind = 3 ∧ p.of_ = v.self) := by
  unfold seen at h
  simp only [Bool.and_eq_true, decide_eq_true_eq, Bool.not_eq_true', Bool.and_eq_false_iff, decide_eq_false_iff_not] at h
  exact ⟨h.1.1.1, h.1.1.2, h.1.2, fun c => by rcases h.2 with h | h <;> simp_all⟩
theorem ofN_self {v : Vw} {p : Pk} (h : seen v p = true) : ofN p ≠ v.self := by
  obtain ⟨h1, _, h3, h4⟩ := seen_right h
  obtain ⟨_, h5, _, h6, _⟩ := right_of h1
  unfold ofN
  split
  · rename_i c
    intro e
    exact h4 ⟨c, by omega⟩
  · intro e
    exact h3 (by omega)
theorem claim_self (v : Vw) (n : Nat) (p : Pk) : (claimV v n p).self = v.self := rfl
theorem take2_self (v : Vw) (p : Pk) : (take2 v p).self = v.self := by unfold take2; split <;> rfl
theorem take2_cur (v : Vw) (p : Pk) : (take2 v p).cur = max v.cur p.cur := by unfold take2; split <;> rfl
theorem take3_self (v : Vw) (p : Pk) : (take3 v p).self = v.self := by unfold take3; split <;> exact take2_self v p
theorem take2_ok {v : Vw} {k : Nat} {p : Pk} (h : v.Ok k) (hs : seen v p = true) : (take2 v p).Ok k := by
  obtain ⟨h1, h2, _, _⟩ := seen_right hs
  obtain ⟨r1, _, _, _, r5, _⟩ := right_of h1
  have hc : max v.cur p.cur ≤ big + k := by have := h.cur; omega
  unfold take2
  split
  · refine ⟨h.self, fun s => ?_, fun n => ?_, hc⟩
    · show (if p.cl s then (if v.own s = 64 ∨ v.own s = ofN p ∨ v.ep (v.own s) < p.epoch then ofN p else v.own s) else (if v.own s = ofN p then 64 else v.own s)) ≤ 64
      have := h.own s
      split <;> split <;> omega
    · show (if n = ofN p then p.epoch else v.ep n) ≤ max v.cur p.cur
      have := h.ep n
      split <;> omega
  · exact ⟨h.self, h.own, fun n => Nat.le_trans (h.ep n) (Nat.le_max_left _ _), hc⟩
theorem raise_ok {v : Vw} {k : Nat} (h : v.Ok k) : (raiseV v).Ok (k + 1) := by
  refine ⟨h.self, h.own, fun n => ?_, by have := h.cur; show v.cur + 1 ≤ _; omega⟩
  show (if n = v.self then v.cur + 1 else v.ep n) ≤ v.cur + 1
  have := h.ep n
  split <;> omega
theorem take_ok {v : Vw} {k : Nat} {p : Pk} (h : v.Ok k) : (takeV v p).Ok (k + 1) := by
  unfold takeV
  split
  · rename_i hs
    have := take2_ok h hs
    unfold take3
    split
    · exact raise_ok this
    · exact this.mono (by omega)
  · exact h.mono (by omega)
theorem own_ok {v : Vw} {k s n : Nat} (h : v.Ok k) (hn : n < 64) : (ownV v s n).Ok k := by
  refine ⟨h.self, fun t => ?_, h.ep, h.cur⟩
  show (if t = s then n else v.own t) ≤ 64
  have := h.own t
  split <;> omega
theorem win_ok {v : Vw} {k s least : Nat} (h : v.Ok k) (hl : least ≤ big) : (winV v s least).Ok (k + 1) := by
  refine raise_ok (v := { ownV v s v.self with cur := max v.cur least }) ?_
  have := own_ok (s := s) h h.self
  exact ⟨this.self, this.own, fun n => Nat.le_trans (this.ep n) (Nat.le_max_left _ _), by have := h.cur; show max v.cur least ≤ _; omega⟩
theorem do_ok {v : Vw} {k : Nat} {o : OpV} (h : v.Ok k) : (doV v o).Ok (k + 1) := by
  unfold doV
  split
  · exact take_ok h
  · split
    · split
      · rename_i c
        refine win_ok h ?_
        unfold winE at c
        split at c
        · rename_i d; exact d.2
        · cases c
      · exact h.mono (by omega)
    · split
      · split
        · rename_i c
          refine (own_ok h ?_).mono (by omega)
          unfold giveE at c
          split at c
          · split at c
            · rename_i d; omega
            · cases c
          · cases c
        · exact h.mono (by omega)
      · exact h.mono (by omega)
/-! P15.5 -/
theorem take_rises {v : Vw} {k : Nat} {p : Pk} (h : v.Ok k) : v.cur ≤ (takeV v p).cur ∧ ∀ n, v.ep n ≤ (takeV v p).ep n := by
  unfold takeV
  split
  · rename_i hs
    have h2 : ∀ n, v.ep n ≤ (take2 v p).ep n := fun n => by
      unfold take2
      split
      · rename_i c
        show v.ep n ≤ if n = ofN p then p.epoch else v.ep n
        split
        · rename_i e; rw [e]; exact c
        · exact Nat.le_refl _
      · exact Nat.le_refl _
    have hc := take2_cur v p
    have ho := take2_ok h hs
    unfold take3
    split
    · refine ⟨?_, fun n => ?_⟩
      · show v.cur ≤ (take2 v p).cur + 1
        omega
      · show v.ep n ≤ if n = (take2 v p).self then (take2 v p).cur + 1 else (take2 v p).ep n
        have := h2 n
        have := ho.ep n
        split <;> omega
    · exact ⟨by omega, h2⟩
  · exact ⟨Nat.le_refl _, fun _ => Nat.le_refl _⟩
theorem win_rises {v : Vw} {k s least : Nat} (h : v.Ok k) : v.cur ≤ (winV v s least).cur ∧ ∀ n, v.ep n ≤ (winV v s least).ep n := by
  refine ⟨?_, fun n => ?_⟩
  · show v.cur ≤ max v.cur least + 1
    omega
  · show v.ep n ≤ if n = v.self then max v.cur least + 1 else v.ep n
    have := h.ep n
    split <;> omega
theorem do_rises {v : Vw} {k : Nat} {o : OpV} (h : v.Ok k) : v.cur ≤ (doV v o).cur ∧ ∀ n, v.ep n ≤ (doV v o).ep n := by
  have same : v.cur ≤ v.cur ∧ ∀ n, v.ep n ≤ v.ep n := ⟨Nat.le_refl _, fun _ => Nat.le_refl _⟩
  unfold doV
  split
  · exact take_rises h
  · split
    · split
      · exact win_rises h
      · exact same
    · split
      · split
        · exact same
        · exact same
      · exact same
/-! P15.6 -/
theorem take_changes {v : Vw} {p : Pk} (s : Nat) (h64 : v.own s ≠ 64) :
    ((takeV v p).own s = 64 → v.own s = ofN p ∧ p.cl s = false) ∧ ((takeV v p).own s ≠ 64 → (takeV v p).own s ≠ v.own s → v.ep (v.own s) < (takeV v p).ep ((takeV v p).own s)) := by
  unfold takeV
  split
  · rename_i hs
    have r1 := (right_of (seen_right hs).1).1
    have hn := ofN_self hs
    have h2 : ((take2 v p).own s = 64 → v.own s = ofN p ∧ p.cl s = false) ∧ ((take2 v p).own s ≠ 64 → (take2 v p).own s ≠ v.own s → (take2 v p).own s = ofN p ∧ v.ep (v.own s) < (take2 v p).ep (ofN p)) := by
      unfold take2
      split
      · show ((if p.cl s then (if v.own s = 64 ∨ v.own s = ofN p ∨ v.ep (v.own s) < p.epoch then ofN p else v.own s) else (if v.own s = ofN p then 64 else v.own s)) = 64 → _) ∧ ((if p.cl s then (if v.own s = 64 ∨ v.own s = ofN p ∨ v.ep (v.own s) < p.epoch then ofN p else v.own s) else (if v.own s = ofN p then 64 else v.own s)) ≠ 64 → (if p.cl s then (if v.own s = 64 ∨ v.own s = ofN p ∨ v.ep (v.own s) < p.epoch then ofN p else v.own s) else (if v.own s = ofN p then 64 else v.own s)) ≠ v.own s → (if p.cl s then (if v.own s = 64 ∨ v.own s = ofN p ∨ v.ep (v.own s) < p.epoch then ofN p else v.own s) else (if v.own s = ofN p then 64 else v.own s)) = ofN p ∧ v.ep (v.own s) < if ofN p = ofN p then p.epoch else v.ep (ofN p))
        rw [if_pos rfl]
        cases hc : p.cl s
        · simp only [Bool.false_eq_true, if_false]
          refine ⟨fun e => ?_, fun e1 e2 => ?_⟩
          · split at e
            · rename_i c; exact ⟨c, trivial⟩
            · exact absurd e h64
          · split at e1
            · exact absurd rfl e1
            · rename_i c; rw [if_neg c] at e2; exact absurd rfl e2
        · simp only [if_true]
          refine ⟨fun e => ?_, fun e1 e2 => ?_⟩
          · split at e
            · omega
            · exact absurd e h64
          · split at e2
            · rename_i c
              rw [if_pos c]
              refine ⟨rfl, ?_⟩
              rcases c with c | c | c
              · exact absurd c h64
              · exact absurd c.symm e2
              · exact c
            · exact absurd rfl e2
      · exact ⟨fun e => absurd e h64, fun _ e => absurd rfl e⟩
    have hown : (take3 v p).own s = (take2 v p).own s := by unfold take3; split <;> rfl
    have hep : (take2 v p).ep (ofN p) ≤ (take3 v p).ep (ofN p) := by
      unfold take3
      split
      · show _ ≤ if ofN p = (take2 v p).self then (take2 v p).cur + 1 else (take2 v p).ep (ofN p)
        rw [if_neg (by rw [take2_self]; exact hn)]
        exact Nat.le_refl _
      · exact Nat.le_refl _
    rw [hown]
    refine ⟨h2.1, fun a b => ?_⟩
    obtain ⟨e1, e2⟩ := h2.2 a b
    rw [e1]
    omega
  · exact ⟨fun e => absurd e h64, fun _ e => absurd rfl e⟩
/-! P15.4 -/
theorem win_wins {v : Vw} {k s least : Nat} (h : v.Ok k) : (∀ n, n ≠ v.self → (winV v s least).ep n < (winV v s least).ep v.self) ∧ (winV v s least).own s = v.self ∧ least < (winV v s least).ep v.self ∧ (winV v s least).ep v.self = (winV v s least).cur ∧ (winV v s least).self = v.self := by
  have e : (winV v s least).ep v.self = max v.cur least + 1 := by
    show (if v.self = v.self then max v.cur least + 1 else _) = _
    rw [if_pos rfl]
  rw [e]
  refine ⟨fun n hn => ?_, ?_, by omega, rfl, rfl⟩
  · show (if n = v.self then max v.cur least + 1 else v.ep n) < _
    rw [if_neg hn]
    have := h.ep n
    omega
  · show (if s = s then v.self else v.own s) = v.self
    rw [if_pos rfl]

/-! P15.3: twice -/
theorem seen_self {v v' : Vw} {p : Pk} (h : v'.self = v.self) : seen v' p = seen v p := by unfold seen; rw [h]
theorem Vw.same {v w : Vw} (h1 : v.self = w.self) (h2 : ∀ n, v.ep n = w.ep n) (h3 : ∀ s, v.own s = w.own s) (h4 : v.cur = w.cur) : v = w := by
  obtain ⟨a, b, c, d⟩ := v
  obtain ⟨a', b', c', d'⟩ := w
  have e2 : b = b' := funext h2
  have e3 : c = c' := funext h3
  subst e2 e3
  simp only at h1 h4
  rw [h1, h4]
/-- a view that a packet does not change -/
theorem take2_rest {w : Vw} {p : Pk} (hc : p.cur ≤ w.cur) (h : w.ep (ofN p) = p.epoch ∧ (∀ s, p.cl s = true → w.own s = ofN p ∨ (w.own s ≠ 64 ∧ p.epoch ≤ w.ep (w.own s))) ∧ (∀ s, p.cl s = false → w.own s ≠ ofN p) ∨ p.epoch < w.ep (ofN p)) : take2 w p = w := by
  have e1 : take1 w p = w := by unfold take1; rw [Nat.max_eq_left hc]
  unfold take2
  rw [e1]
  rcases h with ⟨h1, h2, h3⟩ | h
  · rw [if_pos (by omega)]
    refine Vw.same rfl (fun m => ?_) (fun s => ?_) rfl
    · show (if m = ofN p then p.epoch else w.ep m) = w.ep m
      split
      · rename_i e; rw [e, h1]
      · rfl
    · show (if p.cl s then (if w.own s = 64 ∨ w.own s = ofN p ∨ w.ep (w.own s) < p.epoch then ofN p else w.own s) else (if w.own s = ofN p then 64 else w.own s)) = w.own s
      cases hc : p.cl s
      · simp only [Bool.false_eq_true, if_false]
        rw [if_neg (h3 s hc)]
      · simp only [if_true]
        rcases h2 s hc with e | ⟨e1, e2⟩
        · rw [if_pos (.inr (.inl e)), e]
        · split
          · rename_i c
            rcases c with c | c | c
            · exact absurd c e1
            · exact c.symm
            · omega
          · rfl
  · rw [if_neg (by omega)]
theorem take_twice {v : Vw} {k : Nat} {p : Pk} (h : v.Ok k) : takeV (takeV v p) p = takeV v p := by
  by_cases hs : seen v p = true
  · have e1 : takeV v p = take3 v p := by unfold takeV; rw [if_pos hs]
    have hr := seen_right hs
    obtain ⟨r1, _, _, _, r5, _⟩ := right_of hr.1
    have hn := ofN_self hs
    have o2 := take2_ok h hs
    have s2 := take2_self v p
    have c2 := take2_cur v p
    have s3 := take3_self v p
    have hs3 : seen (take3 v p) p = true := by rw [seen_self s3]; exact hs
    rw [e1]
    have e2 : takeV (take3 v p) p = take3 (take3 v p) p := by unfold takeV; rw [if_pos hs3]
    rw [e2]
    have hep : (take3 v p).ep (ofN p) = (take2 v p).ep (ofN p) := by
      unfold take3
      split
      · show (if ofN p = (take2 v p).self then (take2 v p).cur + 1 else (take2 v p).ep (ofN p)) = _
        rw [if_neg (by rw [s2]; exact hn)]
      · rfl
    have hge : ∀ n, (take2 v p).ep n ≤ (take3 v p).ep n := fun n => by
      unfold take3
      split
      · show _ ≤ if n = (take2 v p).self then (take2 v p).cur + 1 else (take2 v p).ep n
        have := o2.ep n
        split <;> omega
      · exact Nat.le_refl _
    have hown : (take3 v p).own = (take2 v p).own := by unfold take3; split <;> rfl
    have hcur : p.cur ≤ (take3 v p).cur := by
      unfold take3
      split
      · show _ ≤ (take2 v p).cur + 1
        omega
      · omega
    have key : take2 (take3 v p) p = take3 v p := by
      refine take2_rest hcur ?_
      rw [hep, hown]
      by_cases c : (take1 v p).ep (ofN p) ≤ p.epoch
      · have e : take2 v p = claimV (take1 v p) (ofN p) p := by unfold take2; rw [if_pos c]
        refine .inl ⟨?_, fun s hc => ?_, fun s hc => ?_⟩
        · rw [e]
          show (if ofN p = ofN p then p.epoch else _) = _
          rw [if_pos rfl]
        · have eo : (take2 v p).own s = if v.own s = 64 ∨ v.own s = ofN p ∨ v.ep (v.own s) < p.epoch then ofN p else v.own s := by
            rw [e]
            show (if p.cl s then _ else _) = _
            rw [hc]
            rfl
          rw [eo]
          split
          · exact .inl rfl
          · rename_i d
            have d1 : ¬ v.own s = 64 := fun x => d (.inl x)
            have d2 : ¬ v.own s = ofN p := fun x => d (.inr (.inl x))
            have d3 : ¬ v.ep (v.own s) < p.epoch := fun x => d (.inr (.inr x))
            refine .inr ⟨d1, Nat.le_trans ?_ (hge _)⟩
            rw [e]
            show p.epoch ≤ if v.own s = ofN p then p.epoch else v.ep (v.own s)
            rw [if_neg d2]
            omega
        · rw [e]
          show (if p.cl s then _ else (if v.own s = ofN p then 64 else v.own s)) ≠ ofN p
          rw [hc]
          simp only [Bool.false_eq_true, if_false]
          split
          · omega
          · rename_i d; exact d
      · have e : take2 v p = take1 v p := by unfold take2; rw [if_neg c]
        refine .inr ?_
        rw [e]
        omega
    have step : take3 (take3 v p) p = if p.kind ≠ 3 ∧ p.epoch = (take2 (take3 v p) p).ep (take2 (take3 v p) p).self ∧ (take2 (take3 v p) p).self < ofN p then raiseV (take2 (take3 v p) p) else take2 (take3 v p) p := rfl
    rw [step, key]
    by_cases c : p.kind ≠ 3 ∧ p.epoch = (take2 v p).ep (take2 v p).self ∧ (take2 v p).self < ofN p
    · have e : take3 v p = raiseV (take2 v p) := by unfold take3; rw [if_pos c]
      have e' : (take3 v p).ep (take3 v p).self = (take2 v p).cur + 1 := by
        rw [e]
        show (if (take2 v p).self = (take2 v p).self then (take2 v p).cur + 1 else _) = _
        rw [if_pos rfl]
      have := o2.ep (take2 v p).self
      rw [if_neg (fun d => by rw [e'] at d; omega)]
    · have e : take3 v p = take2 v p := by unfold take3; rw [if_neg c]
      rw [e, if_neg c]
  · have e1 : takeV v p = v := by unfold takeV; rw [if_neg hs]
    rw [e1, e1]
theorem answ_twice {v : Vw} {k : Nat} {p : Pk} (h : v.Ok k) : answV (takeV v p) p = answV v p := by
  have hself : (takeV v p).self = v.self := by
    unfold takeV
    split
    · exact take3_self v p
    · rfl
  unfold answV
  rw [seen_self hself, take_twice h]

end Go.Proofs.Ytdicjnkbmlamgab
