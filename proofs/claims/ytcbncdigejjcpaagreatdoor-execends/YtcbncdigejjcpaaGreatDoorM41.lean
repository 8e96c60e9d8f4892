/- KMeth, XD, XE. -/
import Derived.Test.YtcbncdigejjcpaaGreatDoorM35
import Derived.Test.YtcbncdigejjcpaaGreatDoorM36
import Derived.Test.YtcbncdigejjcpaaGreatDoorM37
import Derived.Test.YtcbncdigejjcpaaGreatDoorM38
import Derived.Test.YtcbncdigejjcpaaGreatDoorM39
import Derived.Test.YtcbncdigejjcpaaGreatDoorM40
namespace Go.Proofs.YtcbncdigejjcpaaGreatDoor
open Go.RowKit

theorem Sp.turn {B : Nat} {w w' : World} {b : Nat} {O A : Nat → Prop} {L : List EP} {room now : Int} (h : Sp B w b O A L room now) (k : Keep (fun k => k < B ∨ A k) w w') : Sp B w' b O A L room now := by
  obtain ⟨d, mb, Od, D, f, mem, soon, h1, h2, h3⟩ := h
  exact ⟨d, mb, Od, D, f, mem, soon, h1.turn k, h2, h3⟩
theorem Sp.below {B : Nat} {w w' : World} {b : Nat} {O A : Nat → Prop} {L : List EP} {room now : Int} (h : Sp B w b O A L room now) (k : Below w.heap.size w w') : Sp B w' b O A L room now := h.turn (Keep.of_below k)
theorem Sp.lt {B : Nat} {w : World} {b : Nat} {O A : Nat → Prop} {L : List EP} {room now : Int} (h : Sp B w b O A L room now) : ∀ k, A k → B ≤ k ∧ k < w.heap.size := by
  obtain ⟨d, mb, Od, D, f, mem, soon, h1, h2, h3⟩ := h
  exact h1.lt
theorem Sp.sub {B : Nat} {w : World} {b : Nat} {O A : Nat → Prop} {L : List EP} {room now : Int} (h : Sp B w b O A L room now) : ∀ k, O k → A k := by
  obtain ⟨d, mb, Od, D, f, mem, soon, h1, h2, h3⟩ := h
  exact h1.sub
theorem Sp.base {B : Nat} {w : World} {b : Nat} {O A : Nat → Prop} {L : List EP} {room now : Int} (h : Sp B w b O A L room now) : B ≤ w.heap.size := by
  obtain ⟨d, mb, Od, D, f, mem, soon, h1, h2, h3⟩ := h
  have := h1.blt
  omega
/-- what the entries of a space are -/
structure Fine (L : List EP) (now : Int) : Prop where
  good : ∀ x ∈ L, x.1.length ≤ 1024 ∧ RtV x.2.1 ∧ 0 ≤ x.2.2 ∧ x.2.2 ≤ 1099511627776
  len : L.length ≤ 4096
  live : ∀ x ∈ L, x.2.2 = 0 ∨ now < x.2.2
  now : 0 ≤ now ∧ now ≤ 1099511627776
theorem Sp.fine {B : Nat} {w : World} {b : Nat} {O A : Nat → Prop} {L : List EP} {room now : Int} (h : Sp B w b O A L room now) : Fine L now := by
  obtain ⟨d, mb, Od, D, f, mem, soon, h1, h2, h3⟩ := h
  exact ⟨h2.good, h2.len, fun x hx => (h3.live x hx).imp id (·.1), h3.now⟩
theorem Live.put {L : List EP} {now soon : Int} (h : Live now soon L) (room : Int) (x : E8) (soon' : Int) (h1 : soon' = soon ∨ soon' = (if 0 < x.ends then min soon x.ends else soon)) (h2 : putEL L room now (pr8 x) = 0 → soon' = (if 0 < x.ends then min soon x.ends else soon)) : Live now soon' (putLL L room now (pr8 x)) := by
  have hs := h.soon
  have hle : soon' ≤ soon := by
    rcases h1 with h1 | h1
    · omega
    · rw [h1]; split <;> omega
  have h0 : 0 ≤ soon' := by
    rcases h1 with h1 | h1
    · omega
    · rw [h1]; split <;> omega
  refine ⟨fun y hy => ?_, h.now, by omega⟩
  unfold putLL at hy
  split at hy
  · rename_i he
    rw [insL_eq] at hy
    rcases insR_mem.1 hy with rfl | hy
    · have hna : ¬ argBadP (pr8 x) now := fun hb => by rw [putEL_arg hb] at he; cases he
      unfold argBadP at hna
      dsimp only at hna ⊢
      by_cases hz : x.ends = 0
      · exact .inl hz
      · refine .inr ⟨by omega, ?_⟩
        rw [h2 he, if_pos (by omega)]
        omega
    · exact (h.live y (delL_mem.1 hy).1).imp id (fun k => ⟨k.1, by omega⟩)
  · exact (h.live y hy).imp id (fun k => ⟨k.1, by omega⟩)
/-- Put -/
theorem sp_put {B : Nat} {w : World} {b : Nat} {O A : Nat → Prop} {L : List EP} {room now : Int} (h : Sp B w b O A L room now) (x : E8) (hx : Arg8 x) (hV : Lies (Off O) w x) :
    Calls Tryz.prog 186 #[ptr b, ev x] w fun e w' => e = .returned (.int .i64 (putEL L room now (pr8 x))) ∧ Hid (∃ O' A', Sp B w' b O' A' (putLL L room now (pr8 x)) room now ∧ Stp w w' O O' A A') := by
  obtain ⟨d, mb, Od, D, f, mem, soon, h1, h2, h3⟩ := h
  have hno : ∀ e, putEL L room now (pr8 x) = e → e ≠ 0 → Refused w b x e → Calls Tryz.prog 186 #[ptr b, ev x] w fun e w' => e = .returned (.int .i64 (putEL L room now (pr8 x))) ∧ Hid (∃ O' A', Sp B w' b O' A' (putLL L room now (pr8 x)) room now ∧ Stp w w' O O' A A') := fun e he hne hr => by
    refine hr.mono fun r w' ⟨hr, hb⟩ => ⟨by rw [hr, he], O, A, ⟨d, mb, Od, D, f, mem, soon, h1.below hb.out, ?_, ?_⟩, Stp.below hb.out O A⟩
    · unfold putLL
      rw [he, if_neg hne]
      exact h2
    · unfold putLL
      rw [he, if_neg hne]
      exact h3
  have hyes : PutSp B w b d mb O A L room now soon x → Calls Tryz.prog 186 #[ptr b, ev x] w fun e w' => e = .returned (.int .i64 (putEL L room now (pr8 x))) ∧ Hid (∃ O' A', Sp B w' b O' A' (putLL L room now (pr8 x)) room now ∧ Stp w w' O O' A A') := fun hp => by
    refine hp.mono fun r w' ⟨hr, hh⟩ => ⟨hr, ?_⟩
    obtain ⟨O', A', Od', D', f', mem', soon', k1, k2, k3, k4, k5⟩ := hh.out
    exact ⟨O', A', ⟨d, mb, Od', D', f', mem', soon', k1, k2, h3.put room x soon' k3 k4⟩, k5⟩
  by_cases c1 : 1024 < x.key.length
  · exact hno 1 (putEL_arg (.inl c1)) (by decide) (kput_key h1 x hx c1)
  by_cases c2 : x.ends < 0
  · exact hno 1 (putEL_arg (.inr (.inl c2))) (by decide) (kput_low h1 x c1 c2)
  by_cases c3 : 1099511627776 < x.ends
  · exact hno 1 (putEL_arg (.inr (.inr (.inl c3)))) (by decide) (kput_far h1 x c1 c2 c3)
  by_cases c4 : 0 < x.ends ∧ x.ends ≤ now
  · exact hno 1 (putEL_arg (.inr (.inr (.inr c4)))) (by decide) (kput_over h1 x c1 c2 c3 c4)
  have hab : ¬ argBadP (pr8 x) now := by unfold argBadP; dsimp only; omega
  cases c5 : rightB x.m with
  | false => exact hno 100 (putEL_form hab c5) (by decide) (kput_form h1 x hx c1 c2 c3 c4 hV.vi c5)
  | true =>
    cases c6 : (Dc.getL x.key D.L).isSome with
    | true =>
      by_cases c7 : room < mem + (tk x : Int) - (tk ((Dc.getL x.key D.L).getD Dc.DE.e80) : Int)
      · by_cases c8 : mem < mem + (tk x : Int) - (tk ((Dc.getL x.key D.L).getD Dc.DE.e80) : Int)
        · exact hyes (kput_p1 h1 h2 x hx hV c1 c2 c3 c4 c5 c6 ⟨c7, c8⟩)
        · exact hyes (kput_p2 h1 h2 x hx hV c1 c2 c3 c4 c5 c6 ⟨c7, c8⟩)
      · exact hyes (kput_p3 h1 h2 x hx hV c1 c2 c3 c4 c5 c6 c7)
    | false =>
      by_cases c7 : 4096 ≤ L.length
      · exact hyes (kput_p4 h1 h2 x hx hV c1 c2 c3 c4 c5 c6 c7)
      · by_cases c8 : room < mem + (tk x : Int)
        · exact hyes (kput_p5 h1 h2 x hx hV c1 c2 c3 c4 c5 c6 c7 c8)
        · exact hyes (kput_p6 h1 h2 x hx hV c1 c2 c3 c4 c5 c6 c7 c8)
/-- Delete -/
theorem sp_del {B : Nat} {w : World} {b : Nat} {O A : Nat → Prop} {L : List EP} {room now : Int} (h : Sp B w b O A L room now) (k : Nm) (hk : k.length ≤ 140737488351232) :
    Calls Tryz.prog 34 #[ptr b, txt k] w fun e w' => e = .returned (.bool (getL k L).isSome) ∧ Hid (∃ O' A', Sp B w' b O' A' (delL k L) room now ∧ Stp w w' O O' A A') := by
  obtain ⟨d, mb, Od, D, f, mem, soon, h1, h2, h3⟩ := h
  refine (kdel_any h1 h2 k hk).mono fun e w' ⟨he, hh⟩ => ⟨he, ?_⟩
  obtain ⟨O', A', Od', D', f', mem', k1, k2, k3⟩ := hh.out
  exact ⟨O', A', ⟨d, mb, Od', D', f', mem', soon, k1, k2, ⟨fun x hx => h3.live x (delL_mem.1 hx).1, h3.now, h3.soon⟩⟩, k3⟩
/-- Tick -/
theorem sp_tick {B : Nat} {w : World} {b : Nat} {O A : Nat → Prop} {L : List EP} {room now : Int} (h : Sp B w b O A L room now) (t : Int) :
    Calls Tryz.prog 14 #[ptr b, .int .i64 t] w fun e w' => e = .returned (.int .i64 ((L.length : Int) - ((tickL (tickN now t) L).length : Int))) ∧ Hid (∃ O' A', Sp B w' b O' A' (tickL (tickN now t) L) room (tickN now t) ∧ Stp w w' O O' A A') := by
  obtain ⟨d, mb, Od, D, f, mem, soon, h1, h2, h3⟩ := h
  have fin : ∀ w', TickPost B w b d mb O A L room (tickN now t) w' → ∃ O' A', Sp B w' b O' A' (tickL (tickN now t) L) room (tickN now t) ∧ Stp w w' O O' A A' := fun w' ⟨O', A', Od', D', f', mem', soon', k1, k2, k3, k4⟩ => ⟨O', A', ⟨d, mb, Od', D', f', mem', soon', k1, k2, k3⟩, k4⟩
  by_cases hT : tickN now t < soon
  · exact (ktick_no h1 h2 h3 t _ rfl hT).mono fun e w' ⟨he, hh⟩ => ⟨he, fin w' hh.out⟩
  · exact (ktick_yes h1 h2 h3 t _ rfl hT).mono fun e w' ⟨he, hh⟩ => ⟨he, fin w' hh.out⟩
/-- Get -/
theorem sp_get {B : Nat} {w : World} {b : Nat} {O A : Nat → Prop} {L : List EP} {room now : Int} (h : Sp B w b O A L room now) (k : Nm) (hk : k.length ≤ 140737488351232) :
    Calls Tryz.prog 18 #[ptr b, txt k] w fun e w' => ∃ y : E8, e = .returned (.tuple #[ev y, .bool (getL k L).isSome]) ∧ Hid (pr8 y = (getL k L).getD ([], zeroV, 0) ∧ OwnEn w.heap.size w' y ∧ Below w.heap.size w w') := by
  obtain ⟨d, mb, Od, D, f, mem, soon, h1, h2, h3⟩ := h
  exact kget_any h1 h2 k hk
theorem sp_now {B : Nat} {w : World} {b : Nat} {O A : Nat → Prop} {L : List EP} {room now : Int} (h : Sp B w b O A L room now) : Calls Tryz.prog 128 #[ptr b] w fun e w' => e = .returned (.int .i64 now) ∧ Hid (Below w.heap.size w w') := by
  obtain ⟨d, mb, Od, D, f, mem, soon, h1, h2, h3⟩ := h
  exact know_any h1
end Go.Proofs.YtcbncdigejjcpaaGreatDoor

namespace Go.Proofs.YtcbncdigejjcpaaGreatDoor.Ex
open Re (Rep)
open Go.RowKit

theorem al_four (w : World) (a b c d : Obj) : Below w.heap.size w ((((w.alloc a).alloc b).alloc c).alloc d) ∧ ((((w.alloc a).alloc b).alloc c).alloc d).heap[w.heap.size]? = some a ∧ ((((w.alloc a).alloc b).alloc c).alloc d).heap[w.heap.size + 1]? = some b ∧ ((((w.alloc a).alloc b).alloc c).alloc d).heap[w.heap.size + 2]? = some c ∧ ((((w.alloc a).alloc b).alloc c).alloc d).heap[w.heap.size + 3]? = some d ∧ ((((w.alloc a).alloc b).alloc c).alloc d).heap.size = w.heap.size + 4 := by
  obtain ⟨h1, h2, h3, h4⟩ := al_two w a b
  obtain ⟨k1, k2, k3, k4⟩ := al_two ((w.alloc a).alloc b) c d
  rw [h4] at k1 k2 k3 k4
  refine ⟨h1.trans (k1.mono (by omega)), (k1.block _ (by omega)).trans h2, (k1.block _ (by omega)).trans h3, k2, k3, by rw [k4]⟩
theorem al_three (w : World) (a b c : Obj) : Below w.heap.size w (((w.alloc a).alloc b).alloc c) ∧ (((w.alloc a).alloc b).alloc c).heap[w.heap.size]? = some a ∧ (((w.alloc a).alloc b).alloc c).heap[w.heap.size + 1]? = some b ∧ (((w.alloc a).alloc b).alloc c).heap[w.heap.size + 2]? = some c ∧ (((w.alloc a).alloc b).alloc c).heap.size = w.heap.size + 3 := by
  obtain ⟨h1, h2, h3, h4⟩ := al_two w a b
  have k1 := below_alloc ((w.alloc a).alloc b) c
  have k2 := heap_alloc_new ((w.alloc a).alloc b) c
  rw [h4] at k1 k2
  refine ⟨h1.trans (k1.mono (by omega)), (k1.block _ (by omega)).trans h2, (k1.block _ (by omega)).trans h3, k2, by simp⟩
theorem keep_row (w : World) (f : Nat) (cs : Array Value) : Keep (fun k => k ≠ f) w (w.setRow f cs) := ⟨rfl, rfl, rfl, by simp, fun _ _ h => setRow_other w f _ cs h⟩
/-- a space behind a call, in the world that is left, and the answer, whose rows lie in blocks of P -/
structure Post (B : Nat) (P : Nat → Prop) (w : World) (b : Nat) (O A : Nat → Prop) (room now : Int) (M : List EP) (r : Rep) (w' : World) (v : Value) : Prop where
  ex : ∃ O' A', Sp B w' b O' A' M room now ∧ Stp w w' O O' A A' ∧ Re.Rp (fun k => P k ∧ ¬ O' k) w' 2 v r
/-- nothing of the space turned -/
theorem Post.quiet {B : Nat} {P : Nat → Prop} {w w' : World} {b : Nat} {O A : Nat → Prop} {room now : Int} {L : List EP} {r : Rep} {v : Value} (h : Sp B w b O A L room now) (hb : Below w.heap.size w w') (hr : Re.Rp P w' 2 v r) (hP : ∀ k, P k → w.heap.size ≤ k) : Post B P w b O A room now L r w' v :=
  ⟨O, A, h.below hb, Stp.below hb O A, hr.turn (fun k hk _ => ⟨⟨hk, fun ho => by have := (h.lt k (h.sub k ho)).2; have := hP k hk; omega⟩, rfl⟩) (Nat.le_refl _)⟩
/-- a block that is the caller's own is written, behind all -/
theorem Post.set {B : Nat} {P Q : Nat → Prop} {w w1 w' w'' : World} {b : Nat} {O A : Nat → Prop} {room now : Int} {L M : List EP} {r : Rep} {v : Value} (h : Post B P w1 b O A room now M r w' v) (h0 : Sp B w b O A L room now) (hb : Below w.heap.size w w1) (f : Nat) (hf : w.heap.size ≤ f) (hf1 : f < w1.heap.size) (hP : ∀ k, P k → k ≠ f ∧ Q k) (k : Keep (fun k => k ≠ f) w' w'') : Post B Q w b O A room now M r w'' v := by
  obtain ⟨O', A', h1, h2, h3⟩ := h.ex
  have hA : ∀ k, A' k → k ≠ f := fun k hk e => by
    rcases h2.a k hk with h' | h'
    · have := (h0.lt k h').2; omega
    · omega
  refine ⟨O', A', h1.turn (k.mono (fun j hj => ?_)), ?_, h3.turn (fun j hj hl => ⟨⟨(hP j hj.1).2, hj.2⟩, k.block j hl (hP j hj.1).1⟩) (Nat.le_refl _)⟩
  · rcases hj with hj | hj
    · have := h0.base; omega
    · exact hA j hj
  · have := (Stp.below hb O A).trans h2
    exact ⟨⟨k.os.trans this.keep.os, k.tape.trans this.keep.tape, k.output.trans this.keep.output, Nat.le_trans this.keep.size k.size, fun j hj ho => (k.block j (Nat.lt_of_lt_of_le hj this.keep.size) (by omega)).trans (this.keep.block j hj ho)⟩, this.o, this.a⟩
/-- the caller's own blocks behind a call -/
theorem own_block' {B : Nat} {w W w' : World} {b : Nat} {O O' A A' : Nat → Prop} {L : List EP} {room now : Int} (h : Sp B w b O A L room now) (hst : Stp W w' O O' A A') (f : Nat) (hf : w.heap.size ≤ f) (hf1 : f < W.heap.size) : w'.heap[f]? = W.heap[f]? :=
  hst.keep.block f hf1 (fun ho => by have := (h.lt f (h.sub f ho)).2; omega)
/-- what put answers -/
noncomputable def putR (L : List EP) (room now : Int) (x : EP) (r : Rep) : Rep := if putEL L room now x = 0 then r else if putEL L room now x = 110 then fault fOom else fault fLong
set_option maxHeartbeats 4000000 in
set_option maxRecDepth 100000 in
/-- put -/
theorem put_any {B : Nat} {w : World} {b : Nat} {O A : Nat → Prop} {L : List EP} {room now : Int} (h : Sp B w b O A L room now) (nm : Nm) (p : Option Addr) (n c : Nat) (x : E8) (hx : Arg8 x) (hV : Lies (Off O) w x) (r : Rep) (q : Option Addr) (d : Nat) (P : Nat → Prop) (hP : ∀ k, P k → k < w.heap.size ∧ ¬ O k) (hr : Re.Rp P w 2 (rval r q d) r) :
    Calls Tryz.prog 123 #[cv b nm p n c, ev x, rval r q d] w fun e w' => ∃ q' d', e = .returned (rval (putR L room now (pr8 x) r) q' d') ∧ Hid (Post B P w b O A room now (putLL L room now (pr8 x)) (putR L room now (pr8 x) r) w' (rval (putR L room now (pr8 x) r) q' d')) := by
  have HA := hid (al_four w (cob b nm p n c) (eob x) (rob r q d) rob0)
  have HS := hid h
  have HP := hid (sp_put (h.below HA.out.1) x hx (hV.below HA.out.1))
  have HR := hid hr
  have HPP := hid hP
  obtain ⟨x0, x1, x2⟩ := call_facts HA.out.2.1
  obtain ⟨e0, e1, e2, e3, e4, e5, e6, e7⟩ := ent_facts HA.out.2.2.1
  obtain ⟨E, hE⟩ : ∃ E, E = putEL L room now (pr8 x) := ⟨_, rfl⟩
  have hRE : putR L room now (pr8 x) r = if E = 0 then r else if E = 110 then fault fOom else fault fLong := by rw [hE]; rfl
  obtain ⟨R, hRR⟩ : ∃ R, R = putR L room now (pr8 x) r := ⟨_, rfl⟩
  rw [← hE] at HP
  rw [← hRR] at hRE ⊢
  have HRE := hid hRE
  clear h hx hV hr hP hE hRR hRE
  go_enter Tryz.func123, Tryz.ntmps123
  go_wp2_with fail
  refine HP.out.mono ?_; rintro e w1 ⟨rfl, hh⟩
  obtain ⟨O1, A1, hs1, hst1⟩ := hh.out
  have HS1 := hid hs1
  have HT1 := hid hst1
  have hz : w.heap.size + 4 ≤ w1.heap.size := by have := hst1.keep.size; rw [HA.out.2.2.2.2.2] at this; exact this
  have HR1 := hid ((own_block' HS.out hst1 (w.heap.size + 2) (by omega) (by rw [HA.out.2.2.2.2.2]; omega)).trans HA.out.2.2.2.1)
  have HZ1 := hid ((own_block' HS.out hst1 (w.heap.size + 3) (by omega) (by rw [HA.out.2.2.2.2.2]; omega)).trans HA.out.2.2.2.2.1)
  clear hh hs1 hst1 HP x0 x1 x2 e0 e1 e2 e3 e4 e5 e6 e7
  have HF : Hid (∀ (R : Rep) (q' : Option Addr) (d' : Nat) (w2 : World), Below w1.heap.size w1 w2 → Re.Rp (fun k => P k ∧ ¬ O1 k) w2 2 (rval R q' d') R → Post B P w b O A room now (putLL L room now (pr8 x)) R (w2.setRow (w.heap.size + 3) #[.int .i64 R.kind, .int .i64 R.int, txt R.text, .slice q' R.list.length d']) (rval R q' d')) := fun R q' d' w2 hb2 hrp =>
    Post.set (P := P) (w1 := (((w.alloc (cob b nm p n c)).alloc (eob x)).alloc (rob r q d)).alloc rob0) (w' := w2) ⟨O1, A1, HS1.out.below hb2, HT1.out.trans (Stp.below hb2 O1 A1), hrp⟩ HS.out HA.out.1 (w.heap.size + 3) (by omega) (by rw [HA.out.2.2.2.2.2]; omega) (fun k hk => ⟨by have := (HPP.out k hk).1; omega, hk⟩) (keep_row _ _ _)
  have HW := hid (fun t => wrong_any t w1)
  by_cases h0 : E = 0
  · obtain rfl : R = r := by rw [HRE.out, if_pos h0]
    subst h0
    have HRP : Hid (Re.Rp (fun k => P k ∧ ¬ O1 k) w1 2 (rval R q d) R) := HR.out.turn (fun k hk hl => ⟨⟨hk, fun ho => by
      rcases HT1.out.o k ho with h' | h'
      · exact (HPP.out k hk).2 h'
      · rw [HA.out.2.2.2.2.2] at h'; omega⟩, (HT1.out.keep.block k (by rw [HA.out.2.2.2.2.2]; omega) (HPP.out k hk).2).trans (HA.out.1.block k hl)⟩) (Nat.le_refl _)
    go_wp2_with (first
      | (refine wpList_load_row rfl 32 _ rfl (w.heap.size + 2) rfl 32 _ (0, 0) _ HR1.out Tryz.underlying32 rfl (Re.infoRep _ _ _ _) ?_)
      | (refine wpList_store_row rfl 32 _ _ rfl (w.heap.size + 3) #[.int .i64 R.kind, .int .i64 R.int, txt R.text, .slice q R.list.length d] rfl rfl 32 _ HZ1.out (Re.infoRep _ _ _ _) rfl (one_r _ _ _) ?_))
    refine bodyPost_ret (v := rval R q d) ?_ rfl ?_
    · exact Re.ret_rep1 rfl rfl (setRow_heap w1 _ _ _ _ _ HZ1.out)
    · exact ⟨q, d, rfl, HF.out R q d w1 (Below.refl _ _) HRP.out⟩
  · have b0 : (E == 0) = false := beq_eq_false_iff_ne.2 h0
    by_cases h1 : E = 110
    · obtain rfl : R = fault fOom := by rw [HRE.out, if_neg h0, if_pos h1]
      subst h1
      clear h0
      replace HW := hid (HW.out fOom)
      go_wp2_with fail
      refine HW.out.mono ?_; rintro e w2 ⟨rfl, hb2⟩
      have HZ2 := hid ((hb2.out.block (w.heap.size + 3) (by omega)).trans HZ1.out)
      go_wp2_with (refine wpList_store_row rfl 32 _ _ rfl (w.heap.size + 3) #[.int .i64 (fault fOom).kind, .int .i64 (fault fOom).int, txt (fault fOom).text, .slice none (fault fOom).list.length 0] rfl rfl 32 _ HZ2.out (Re.infoRep _ _ _ _) rfl (one_r _ _ _) ?_)
      refine bodyPost_ret (v := rval (fault fOom) none 0) ?_ rfl ?_
      · exact Re.ret_rep1 rfl rfl (setRow_heap w2 _ _ _ _ _ HZ2.out)
      · exact ⟨none, 0, rfl, HF.out _ none 0 w2 hb2.out (flat_rp (by decide) (by decide) (by decide))⟩
    · obtain rfl : R = fault fLong := by rw [HRE.out, if_neg h0, if_neg h1]
      have b1 : (E == 110) = false := beq_eq_false_iff_ne.2 h1
      clear h0 h1
      replace HW := hid (HW.out fLong)
      go_wp2_with fail
      refine HW.out.mono ?_; rintro e w2 ⟨rfl, hb2⟩
      have HZ2 := hid ((hb2.out.block (w.heap.size + 3) (by omega)).trans HZ1.out)
      go_wp2_with (refine wpList_store_row rfl 32 _ _ rfl (w.heap.size + 3) #[.int .i64 (fault fLong).kind, .int .i64 (fault fLong).int, txt (fault fLong).text, .slice none (fault fLong).list.length 0] rfl rfl 32 _ HZ2.out (Re.infoRep _ _ _ _) rfl (one_r _ _ _) ?_)
      refine bodyPost_ret (v := rval (fault fLong) none 0) ?_ rfl ?_
      · exact Re.ret_rep1 rfl rfl (setRow_heap w2 _ _ _ _ _ HZ2.out)
      · exact ⟨none, 0, rfl, HF.out _ none 0 w2 hb2.out (flat_rp (by decide) (by decide) (by decide))⟩

end Go.Proofs.YtcbncdigejjcpaaGreatDoor.Ex

namespace Go.Proofs.YtcbncdigejjcpaaGreatDoor.Ex
open Re (Rep)
open Go.RowKit

theorem entry_any {B : Nat} {w : World} {b : Nat} {O A : Nat → Prop} {L : List EP} {room now : Int} (h : Sp B w b O A L room now) (nm : Nm) (g o n c : Nat) (k : Nm) (K : Int) (hn : 0 < n) (hk : w.cell? ⟨g, o, none⟩ = some (txt k)) (hkl : k.length ≤ 140737488351232) :
    Calls Tryz.prog 150 #[cv b nm (some ⟨g, o, none⟩) n c, .int .i64 K] w fun e w' => ∃ y : E8, e = .returned (.tuple #[ev y, .bool (isIn L k), .bool (y.m.kind == K)]) ∧ Hid (pr8 y = (k, curV L k K, endOf L k) ∧ OwnEn w.heap.size w' y ∧ Below w.heap.size w w') := by
  refine (entry_walk b nm g o n c k K (isIn L k) (fun y => pr8 y = (getL k L).getD ([], zeroV, 0)) hn hk (fun W hb => sp_get (h.below hb) k hkl)).mono ?_
  rintro e w' ⟨y0, y, rfl, hh⟩
  obtain ⟨h1, h2, h3, h4, h5⟩ := hh.out
  refine ⟨y, rfl, ?_, h4, h5⟩
  unfold curV endOf valOf
  cases hg : getL k L with
  | none =>
    have hi : isIn L k = false := by unfold isIn; rw [hg]; rfl
    rw [h3 hi, hi]
    rfl
  | some x =>
    have hi : isIn L k = true := by unfold isIn; rw [hg]; rfl
    rw [h2 hi, h1, hg, hi]
    show x = (k, x.2.1, x.2.2)
    rw [← get_key hg]
/-- has the key a value of another kind? -/
def otherK (L : List EP) (k : Nm) (K : Int) : Bool := isIn L k && (valOf L k).kind != K
theorem cur_kind (L : List EP) (k : Nm) (K : Int) : ((curV L k K).kind == K) = !otherK L k K := by
  unfold curV otherK
  cases isIn L k
  · simp
  · simp [bne]
/-- a closure's answer -/
abbrev Tell (N : Nat) (F : Nat) (args : Array Value) (w : World) (r : Rep) : Prop := Calls Tryz.prog F args w fun e w' => ∃ q d, e = .returned (rval r q d) ∧ Hid (Re.Rp (fun k => N ≤ k) w' 2 (rval r q d) r ∧ Below w.heap.size w w')
set_option maxHeartbeats 4000000 in
set_option maxRecDepth 100000 in
/-- look -/
theorem look_any {B : Nat} {w : World} {b : Nat} {O A : Nat → Prop} {L : List EP} {room now : Int} (h : Sp B w b O A L room now) (nm : Nm) (g o n c : Nat) (k : Nm) (K : Int) (F : Nat) (cb : Array Value) (r : Rep) (eg : ∀ args w, (callFunc F args).run Tryz.prog w = .ok (.enter F args) w) (hn : 0 < n) (hk : w.cell? ⟨g, o, none⟩ = some (txt k)) (hkl : k.length ≤ 140737488351232)
    (hT : otherK L k K = false → ∀ (W : World) (y : E8), Below w.heap.size w W → pr8 y = (k, curV L k K, endOf L k) → OwnEn w.heap.size W y → Tell W.heap.size F (#[vv y.m y.pp y.pc y.ip y.ic, .bool (isIn L k)] ++ cb) W r) :
    Calls Tryz.prog 68 #[cv b nm (some ⟨g, o, none⟩) n c, .int .i64 K, .func (.func F) #[] cb] w fun e w' => ∃ q d, e = .returned (rval (if otherK L k K then fault fType else r) q d) ∧ Hid (Re.Rp (fun k => w.heap.size ≤ k) w' 2 (rval (if otherK L k K then fault fType else r) q d) (if otherK L k K then fault fType else r) ∧ Below w.heap.size w w') := by
  have HA := hid (al_two w (cob b nm (some ⟨g, o, none⟩) n c) rob0)
  have HE := hid (entry_any (h.below HA.out.1) nm g o n c k K hn (cell_turn hk (HA.out.1.block g (block_lt_of_cell hk))) hkl)
  obtain ⟨x0, x1, x2⟩ := call_facts HA.out.2.1
  have HT := hid hT
  have hck := cur_kind L k K
  obtain ⟨is, his⟩ : ∃ is, is = isIn L k := ⟨_, rfl⟩
  obtain ⟨ok, hok⟩ : ∃ ok, ok = otherK L k K := ⟨_, rfl⟩
  rw [← hok] at hck HT ⊢
  rw [← his] at HT HE
  clear h hk hT hok his
  go_enter Tryz.func68, Tryz.ntmps68
  go_wp2_with fail
  refine HE.out.mono ?_; rintro e w1 ⟨y, rfl, hh⟩
  obtain ⟨hy, hoy, hb1⟩ := hh.out
  have hkd : (y.m.kind == K) = !ok := by rw [← hck, ← show y.m = curV L k K from congrArg (fun e => e.2.1) hy]
  have hs1 : w.heap.size + 2 ≤ w1.heap.size := by have := hb1.size; rw [HA.out.2.2.2] at this; exact this
  have HZ1 := hid ((hb1.block (w.heap.size + 1) (by rw [HA.out.2.2.2]; omega)).trans HA.out.2.2.1)
  have HB1 := hid (HA.out.1.trans (hb1.mono HA.out.1.size))
  have HY := hid hy
  have HOY := hid hoy
  rw [hkd]
  have HBE := hid (below_alloc w1 (eob y))
  have HE1 := hid (heap_alloc_new w1 (eob y))
  have HZ2 := hid ((HBE.out.block (w.heap.size + 1) (by omega)).trans HZ1.out)
  obtain ⟨e0, e1, e2, e3, e4, e5, e6, e7⟩ := ent_facts HE1.out
  clear hh hy hoy hb1 hkd hck x0 x1 x2
  cases ok
  · replace HT := hid (HT.out rfl _ y (HB1.out.trans (HBE.out.mono HB1.out.size)) HY.out ((HOY.out.mono (by rw [HA.out.2.2.2]; omega)).below HBE.out))
    rw [Bool.not_false]
    go_wp2_with fail
    refine HT.out.mono ?_; rintro e w2 ⟨q, d, rfl, hh⟩
    obtain ⟨hr2, hb2⟩ := hh.out
    have hs2 : w1.heap.size + 1 ≤ w2.heap.size := by have := hb2.size; simp at this; exact this
    have HZ3 := hid ((hb2.block (w.heap.size + 1) (by simp; omega)).trans HZ2.out)
    have HB3 := hid (HB1.out.trans ((HBE.out.mono HB1.out.size).trans (hb2.mono (Nat.le_trans HB1.out.size (by simp)))))
    have HR3 := hid hr2
    clear hh hr2 hb2
    go_wp2_with (refine wpList_store_row rfl 32 _ _ rfl (w.heap.size + 1) #[.int .i64 r.kind, .int .i64 r.int, txt r.text, .slice q r.list.length d] rfl rfl 32 _ HZ3.out (Re.infoRep _ _ _ _) rfl (one_r _ _ _) ?_)
    refine bodyPost_ret (v := rval r q d) ?_ rfl ?_
    · exact Re.ret_rep1 rfl rfl (setRow_heap w2 _ _ _ _ _ HZ3.out)
    · refine ⟨q, d, rfl, HR3.out.turn (fun j hj hl => ⟨by simp at hj; have := HB1.out.size; omega, setRow_other _ _ _ _ (by simp at hj; omega)⟩) (Nat.le_refl _), Re.below_setRow HB3.out (by omega) _⟩
  · have HW := hid (wrong_any fType (w1.alloc (eob y)))
    rw [Bool.not_true]
    go_wp2_with fail
    refine HW.out.mono ?_; rintro e w2 ⟨rfl, hb2⟩
    have HZ3 := hid ((hb2.out.block (w.heap.size + 1) (by simp; omega)).trans HZ2.out)
    have HB3 := hid (HB1.out.trans ((HBE.out.mono HB1.out.size).trans (hb2.out.mono (Nat.le_trans HB1.out.size (by simp)))))
    clear hb2
    go_wp2_with (refine wpList_store_row rfl 32 _ _ rfl (w.heap.size + 1) #[.int .i64 (fault fType).kind, .int .i64 (fault fType).int, txt (fault fType).text, .slice none (fault fType).list.length 0] rfl rfl 32 _ HZ3.out (Re.infoRep _ _ _ _) rfl (one_r _ _ _) ?_)
    refine bodyPost_ret (v := rval (fault fType) none 0) ?_ rfl ?_
    · exact Re.ret_rep1 rfl rfl (setRow_heap w2 _ _ _ _ _ HZ3.out)
    · exact ⟨none, 0, rfl, flat_rp (by decide) (by decide) (by decide), Re.below_setRow HB3.out (by omega) _⟩

end Go.Proofs.YtcbncdigejjcpaaGreatDoor.Ex
