/- ExP2, ExP3, ExP4, ExP5, ExA, KDo0, KDo1, ExMeth, ExAlive, ExP6. -/
import Derived.Test.YtcbncdigejjcpaaGreatDoorM25
import Derived.Test.YtcbncdigejjcpaaGreatDoorM41
import Derived.Test.YtcbncdigejjcpaaGreatDoorM21
namespace Go.Proofs.YtcbncdigejjcpaaGreatDoor.Ex
open Re (Rep)

abbrev nSET : Nm := [83, 69, 84]
abbrev nGET : Nm := [71, 69, 84]
abbrev nTTL : Nm := [84, 84, 76]
abbrev nEXPIRE : Nm := [69, 88, 80, 73, 82, 69]
abbrev nEXISTS : Nm := [69, 88, 73, 83, 84, 83]
abbrev nrpush : Nm := [114, 112, 117, 115, 104]
abbrev nLRANGE : Nm := [76, 82, 65, 78, 71, 69]

/-- a command that is there, and of which nothing is amiss -/
theorem doM_ok {room : Int} {L : List EP} {now : Int} {a : Row} {t : Int} {c : Nat} (h0 : (Tb.chk a).2 = 0) (hc : Tb.place (Tb.great (arg a 0)) = c) (he : early (tickL (tickN now t) L) c a = none) :
    doM room L now a t = ((doC room (tickN now t) (tickL (tickN now t) L) c a).1, tickN now t, (doC room (tickN now t) (tickL (tickN now t) L) c a).2) := by
  unfold doM
  dsimp only
  rw [if_neg (by rw [h0]; decide), if_neg (by rw [h0]; decide), hc, he]
theorem put_le {L : List EP} (h : ∀ x ∈ L, x.1.length ≤ 1024) (hl : L.length ≤ 4096) {x : EP} (hx : x.1.length ≤ 1024) : ((memL (delL x.1 L) + tkE x : Nat) : Int) ≤ 4102270000 := by
  have h1 := memL_le (L := delL x.1 L) fun y hy => h y (delL_mem.1 hy).1
  have h2 := delL_len x.1 L
  have h3 := tkE_le hx
  omega
theorem plain_right {t : Nm} (h : t.length ≤ 4096) : rightB (plainV t) = true := rightB_iff.2 (rtv1 h)
theorem val_some {L : List EP} {k : Nm} {x : EP} (h : getL k L = some x) : valOf L k = x.2.1 ∧ endOf L k = x.2.2 ∧ isIn L k = true := by
  unfold valOf endOf isIn
  rw [h]
  exact ⟨rfl, rfl, rfl⟩
theorem early_any {L : List EP} {c : Nat} {a : Row} (hk : kindC c = 0) (hn : numsC c a = []) (h13 : c ≠ 13) (h34 : c ≠ 34) (h36 : c ≠ 36) (h37 : c ≠ 37) : early L c a = none := by
  unfold early
  simp [hk, hn, h13, h34, h36, h37]

end Go.Proofs.YtcbncdigejjcpaaGreatDoor.Ex

namespace Go.Proofs.YtcbncdigejjcpaaGreatDoor.Ex
open Re (Rep)

theorem right_full {v : Vl} (h : RtV v) : emptyV v = false := by
  unfold emptyV
  have h2 : v.kind = 2 → v.pairs.isEmpty = false := fun e => by
    have := (h.k2 e).1.2.1
    rw [List.length_map] at this
    cases hv : v.pairs with
    | nil => rw [hv] at this; simp at this
    | cons _ _ => rfl
  have h3 : v.kind = 3 ∨ v.kind = 4 → v.items.isEmpty = false := fun e => by
    have : 1 ≤ v.items.length := by
      rcases e with e | e
      · exact (h.k3 e).2.1
      · exact (h.k4 e).1.2.1
    cases hv : v.items with
    | nil => rw [hv] at this; simp at this
    | cons _ _ => rfl
  by_cases e2 : v.kind = 2
  · rw [h2 e2, e2]; rfl
  · by_cases e3 : v.kind = 3 ∨ v.kind = 4
    · rw [h3 e3, beq_eq_false_iff_ne.2 e2]; simp
    · rw [beq_eq_false_iff_ne.2 e2, beq_eq_false_iff_ne.2 (fun e => e3 (.inl e)), beq_eq_false_iff_ne.2 (fun e => e3 (.inr e))]; rfl
/-- an entry that is put into an empty space -/
theorem put_new {room now : Int} {k : Nm} {v : Vl} {e : Int} (hr : RtV v) (hk : k.length ≤ 1024) (hroom : 2000000 ≤ room) (he : e = 0 ∨ (now < e ∧ 0 < e ∧ e ≤ 1099511627776)) : putEL [] room now (k, v, e) = 0 := by
  have hb : ¬ argBadP (k, v, e) now := by unfold argBadP; show ¬ (1024 < k.length ∨ e < 0 ∨ 1099511627776 < e ∨ (0 < e ∧ e ≤ now)); omega
  have h2 : ((memL (delL k []) + tkE (k, v, e) : Nat) : Int) ≤ 2000000 := by
    have h3 := tkE_le (x := (k, v, e)) hk
    have h4 : memL (delL k []) = 0 := rfl
    omega
  unfold putEL
  rw [if_neg hb, if_neg (show ¬ rightB v = false by rw [rightB_iff.2 hr]; decide), if_neg]
  rintro (⟨_, h⟩ | ⟨h, _⟩)
  · exact absurd h (by decide)
  · dsimp only at h h2; omega
/-- EXPIRE of the one key that is there -/
theorem one_put {room now : Int} {k : Nm} {v : Vl} {e e' : Int} (hr : RtV v) (hk : k.length ≤ 1024) (hroom : 4102270000 ≤ room) (he : e' = 0 ∨ (now < e' ∧ 0 < e' ∧ e' ≤ 1099511627776)) : putEL [(k, v, e)] room now (k, v, e') = 0 ∧ putLL [(k, v, e)] room now (k, v, e') = [(k, v, e')] := by
  have hb : ¬ argBadP (k, v, e') now := by unfold argBadP; show ¬ (1024 < k.length ∨ e' < 0 ∨ 1099511627776 < e' ∨ (0 < e' ∧ e' ≤ now)); omega
  have h2 := put_le (L := [(k, v, e)]) (fun x hx => by rw [List.mem_singleton.1 hx]; exact hk) (by show 1 ≤ 4096; decide) (x := (k, v, e')) hk
  have hd : delL k [(k, v, e)] = [] := by unfold delL; simp
  have h0 : putEL [(k, v, e)] room now (k, v, e') = 0 := by
    unfold putEL
    rw [if_neg hb, if_neg (show ¬ rightB v = false by rw [rightB_iff.2 hr]; decide), if_neg]
    rintro (⟨_, h⟩ | ⟨h, _⟩)
    · exact absurd h (by show ¬ 4096 ≤ 1; decide)
    · dsimp only at h h2; omega
  refine ⟨h0, ?_⟩
  unfold putLL
  rw [if_pos h0]
  show insL (k, v, e') (delL k [(k, v, e)]) = _
  rw [hd]
  rfl
theorem get_one (k : Nm) (v : Vl) (e : Int) : getL k [(k, v, e)] = some (k, v, e) := by unfold getL; simp
theorem tell_itoa {n : Int} (h0 : -9223372036854775808 ≤ n) (h1 : n ≤ 9223372036854775807) : Num.tellE (Lib.itoa n) = 0 ∧ Num.tellV (Lib.itoa n) = n := by
  obtain ⟨a, b, c⟩ := Num.itoa_formed n h0 h1
  unfold Num.tellE Num.tellV
  rw [a, b, c]
  exact ⟨rfl, rfl⟩
theorem expire_one {room now : Int} {k : Nm} {v : Vl} {n : Int} (hr : RtV v) (hk : k.length ≤ 1024) (hroom : 4102270000 ≤ room) (h1 : 1 ≤ n) (h2 : n ≤ 1073741824) (hn : 0 ≤ now ∧ now ≤ 1073741824) :
    doC room now [(k, v, 0)] 40 [nEXPIRE, k, Lib.itoa n] = ([(k, v, now + n)], wholeR 1) := by
  have hv := val_some (get_one k v 0)
  have ht := (tell_itoa (n := n) (by omega) (by omega)).2
  obtain ⟨p1, p2⟩ := one_put (room := room) (now := now) (e := 0) (e' := now + n) hr hk hroom (.inr ⟨by omega, by omega, by omega⟩)
  have hd : doC room now [(k, v, 0)] 40 [nEXPIRE, k, Lib.itoa n] = if isIn [(k, v, 0)] k = false then ([(k, v, 0)], wholeR 0) else if min (Num.tellV (Lib.itoa n)) (1099511627776 - now) < 1 then (delL k [(k, v, 0)], wholeR 1) else withM room now [(k, v, 0)] (k, valOf [(k, v, 0)] k, now + min (Num.tellV (Lib.itoa n)) (1099511627776 - now)) (wholeR 1) := rfl
  have hm : min n (1099511627776 - now) = n := by omega
  rw [hd, ht, hm, hv.2.2, hv.1, if_neg (by decide), if_neg (by omega)]
  unfold withM
  rw [if_neg (show ¬ emptyV v = true by rw [right_full hr]; decide), if_neg (by rw [p1]; decide), if_neg (by rw [p1]; decide), p2]

end Go.Proofs.YtcbncdigejjcpaaGreatDoor.Ex

namespace Go.Proofs.YtcbncdigejjcpaaGreatDoor.Ex
open Re (Rep)

abbrev lV : Vl := listV [[97], [98]]
theorem right_l : RtV lV := RtV.mk (fun _ => rfl) (fun _ => rfl) (fun h => absurd rfl h) (fun _ => ⟨rfl, rfl⟩) (by decide) (fun h => absurd h (by decide)) (fun h => absurd h (by decide)) (fun _ => ⟨fun x hx => by
  rcases List.mem_cons.1 hx with rfl | hx
  · decide
  · rw [List.mem_singleton.1 hx]; decide, by decide, by decide⟩) (fun h => absurd h (by decide)) (fun h => absurd h (by decide))
theorem tk_l : tkE ([108], lV, 0) = 28 := by
  unfold tkE
  show 16 + 1 + (dumpS lV).length = 28
  unfold dumpS
  rw [if_pos (rightB_iff.2 right_l), dump_len]
  rfl
theorem put_l : putEL [] 1048576 0 ([108], lV, 0) = 0 := by
  unfold putEL
  rw [if_neg (show ¬ argBadP ([108], lV, 0) 0 by unfold argBadP; show ¬ (1024 < 1 ∨ (0 : Int) < 0 ∨ (1099511627776 : Int) < 0 ∨ ((0 : Int) < 0 ∧ (0 : Int) ≤ 0)); omega), if_neg (show ¬ rightB lV = false by rw [rightB_iff.2 right_l]; decide), if_neg]
  rw [tk_l]
  rintro (⟨_, h⟩ | ⟨h, _⟩)
  · exact absurd h (by decide)
  · exact absurd h (by unfold memL; decide)
abbrev al : List EP := [([108], lV, 0)]
theorem alive1 : doM 1048576 [] 0 [nrpush, [108], [97], [98]] 0 = (al, 0, wholeR 2) := by
  have hp := put_l
  rw [doM_ok (c := 19) rfl (by kernel_rfl) (by
    unfold early
    have hk : Tb.keysL [nrpush, [108], [97], [98]] = [[108]] := by kernel_rfl
    rw [hk]
    rfl)]
  have hd : doC 1048576 (tickN 0 0) (tickL (tickN 0 0) []) 19 [nrpush, [108], [97], [98]] = withM 1048576 0 [] ([108], lV, 0) (wholeR 2) := rfl
  rw [hd]
  unfold withM
  rw [if_neg (by decide), if_neg (by rw [hp]; decide), if_neg (by rw [hp]; decide)]
  unfold putLL
  rw [if_pos hp]
  rfl
theorem alive2 : doM 1048576 al 0 [nLRANGE, [108], [48], [45, 49]] 0 = (al, 0, bulksR [[97], [98]]) := by
  rw [doM_ok (c := 24) rfl (by kernel_rfl) (by
    unfold early
    have hk : Tb.keysL [nLRANGE, [108], [48], [45, 49]] = [[108]] := by kernel_rfl
    rw [hk]
    rfl)]
  rfl
theorem alive3 : doM 1048576 al 0 [nGET, [108]] 0 = (al, 0, fault fType) := by
  have he : early (tickL (tickN 0 0) al) 3 [nGET, [108]] = some fType := by
    unfold early
    have hk : Tb.keysL [nGET, [108]] = [[108]] := by kernel_rfl
    rw [hk]
    rfl
  unfold doM
  dsimp only
  rw [if_neg (by decide), if_neg (by decide), show Tb.place (Tb.great (arg [nGET, [108]] 0)) = 3 by kernel_rfl, he]
  rfl

end Go.Proofs.YtcbncdigejjcpaaGreatDoor.Ex

namespace Go.Proofs.YtcbncdigejjcpaaGreatDoor.Ex
open Re (Rep)
open Go.RowKit

/-- texts of lengths that a memory holds -/
abbrev Txm (a : Row) : Prop := ∀ x ∈ a, x.length ≤ 140737488351232
/-- the program's Do does what doM says, at the command a -/
def DoAt (B : Nat) (a : Row) : Prop := ∀ (w : World) (b : Nat) (O A : Nat → Prop) (L : List EP) (room now : Int), Sp B w b O A L room now → ∀ (p : Option Addr) (c : Nat) (t : Int), Rd w p c a → (a ≠ [] → ∀ q, p = some q → ¬ O q.block) → a.length ≤ 64 → Txm a → In64 t →
  Calls Tryz.prog 12 #[ptr b, .slice p a.length c, .int .i64 t] w fun e w' => ∃ v, e = .returned v ∧ Hid (∃ O' A', Sp B w' b O' A' (doM room L now a t).1 room (doM room L now a t).2.1 ∧ Stp w w' O O' A A' ∧ Re.Rp (fun k => w.heap.size ≤ k ∧ ¬ O' k) w' 2 v (doM room L now a t).2.2)
/-- a call leaves alone what lies below the space's blocks -/
theorem under {N : Nat} {w w' : World} {O O' A A' : Nat → Prop} (h : Stp w w' O O' A A') (hA : ∀ k, A k → N ≤ k) (hs : ∀ k, O k → A k) (hN : N ≤ w.heap.size) : Below N w w' ∧ ∀ k, A' k → N ≤ k :=
  ⟨⟨h.keep.os, h.keep.tape, h.keep.output, h.keep.size, fun k hk => h.keep.block k (by omega) (fun ho => by have := hA k (hs k ho); omega)⟩, fun k hk => by
    rcases h.a k hk with h1 | h1
    · exact hA k h1
    · omega⟩
/-- a row of texts, laid at once -/
theorem rd_new (w : World) (l : Row) : Rd (w.alloc (.cells (l.map txt).toArray 9)) (some ⟨w.heap.size, 0, none⟩) l.length l := by
  refine ⟨fun _ => ⟨w.heap.size, 0, rfl, fun i hi => ?_⟩, (fun h => by cases h), Nat.le_refl _⟩
  rw [cell_of_row _ _ _ _ _ _ (heap_alloc_new w _)]
  simp [hi]
end Go.Proofs.YtcbncdigejjcpaaGreatDoor.Ex

namespace Go.Proofs.YtcbncdigejjcpaaGreatDoor.Ex
open Re (Rep)
open Go.RowKit

abbrev rA : Row := [nrpush, [108], [97], [98]]
abbrev rB : Row := [nLRANGE, [108], [48], [45, 49]]
abbrev rC : Row := [nGET, [108]]
theorem txs_small {l : Row} (h : l.all (fun t => decide (t.length ≤ 1000)) = true) : Txm l := fun t ht => Nat.le_trans (of_decide_eq_true (List.all_eq_true.1 h t ht)) (by decide)
/-- Do of a row that is laid at once -/
theorem do_new {B : Nat} {w : World} {b : Nat} {O A : Nat → Prop} {L : List EP} {room now : Int} (h : Sp B w b O A L room now) (l : Row) (hD : DoAt B l) (hl : l.length ≤ 64) (ht : Txm l) (t : Int) (h64 : In64 t) :
    Calls Tryz.prog 12 #[ptr b, .slice (some ⟨w.heap.size, 0, none⟩) l.length l.length, .int .i64 t] (w.alloc (.cells (l.map txt).toArray 9)) fun e w' => ∃ v, e = .returned v ∧ Hid (∃ O' A', Sp B w' b O' A' (doM room L now l t).1 room (doM room L now l t).2.1 ∧ (∀ N, (∀ k, A k → N ≤ k) → N ≤ w.heap.size → Below N w w' ∧ ∀ k, A' k → N ≤ k) ∧ (∀ k, k < w.heap.size → ¬ O k → w'.heap[k]? = w.heap[k]? ∧ ¬ O' k) ∧ (∀ k, A' k → A k ∨ w.heap.size ≤ k) ∧ w.heap.size ≤ w'.heap.size ∧ Re.Rp (fun k => w.heap.size ≤ k ∧ ¬ O' k) w' 2 v (doM room L now l t).2.2) := by
  have hb := below_alloc w (.cells (l.map txt).toArray 9)
  refine (hD _ b O A L room now (h.below hb) _ _ t (rd_new w l) (fun _ q hq ho => ?_) hl ht h64).mono ?_
  · injection hq with hq
    subst hq
    have := (h.lt _ (h.sub _ ho)).2
    exact absurd this (by show ¬ w.heap.size < w.heap.size; omega)
  · rintro e w' ⟨v, rfl, hh⟩
    obtain ⟨O', A', h1, h2, h3⟩ := hh.out
    have hs : (w.alloc (.cells (l.map txt).toArray 9)).heap.size = w.heap.size + 1 := by simp
    refine ⟨v, rfl, O', A', h1, fun N hA hN => ?_, fun k hk ho => ⟨(h2.keep.block k (by omega) ho).trans (hb.block k hk), fun ho' => by
      rcases h2.o k ho' with h' | h'
      · exact ho h'
      · omega⟩, fun k hk => ?_, Nat.le_trans hb.size h2.keep.size, h3.turn (fun k hk _ => ⟨⟨by omega, hk.2⟩, rfl⟩) (Nat.le_refl _)⟩
    · obtain ⟨u1, u2⟩ := under h2 hA h.sub (by omega)
      exact ⟨(hb.mono hN).trans u1, u2⟩
    · rcases h2.a k hk with h' | h'
      · exact .inl h'
      · exact .inr (by omega)
theorem fld_text (k n : Int) (s : ByteArray) (p : Option Addr) (m c : Nat) (w : World) : (Instr.field 32 (.agg #[.int .i64 k, .int .i64 n, .string s, .slice p m c]) 2).run Tryz.prog w = .ok (.string s) w := by kernel_rfl
set_option maxHeartbeats 8000000 in
set_option maxRecDepth 100000 in
theorem alive_any {B : Nat} (hDa : DoAt B rA) (hDb : DoAt B rB) (hDc : DoAt B rC) (hB0 : 8 < B) (w : World) (hT : Tab w) (hB : B ≤ w.heap.size) : Calls Tryz.prog 11 #[] w fun e w' => e = .returned (.bool true) ∧ Hid (Below w.heap.size w w') := by
  have HN := hid (knew_any hB0 w hT hB 1048576)
  have H64 : Hid (In64 0) := by unfold Hid In64; decide
  have HDa : Hid (DoAt B rA) := hDa
  have HDb : Hid (DoAt B rB) := hDb
  have HDc : Hid (DoAt B rC) := hDc
  clear hT hDa hDb hDc
  go_enter Tryz.func11, Tryz.ntmps11
  go_wp2_with fail
  refine HN.out.mono ?_; rintro e w1 ⟨b, rfl, hh⟩
  obtain ⟨O1, A1, hS1, hA1, hb1⟩ := hh.out
  have HD1 := hid (do_new hS1 rA HDa.out (by decide) (txs_small (by decide)) 0 H64.out)
  have HA1 := hid hA1
  have HW1 := hid hb1
  clear hh hS1 hA1 hb1
  go_wp2_with fail
  refine HD1.out.mono ?_; rintro e w2 ⟨v2, rfl, hh⟩
  obtain ⟨O2, A2, hS2, hu2, -, -, -, hr2⟩ := hh.out
  rw [alive1] at hS2 hr2
  obtain ⟨d2, p2, c2, -, rfl, -, -⟩ := hr2.open
  obtain ⟨hb2, hA2⟩ := hu2 w.heap.size HA1.out HW1.out.size
  have HW2 := hid (HW1.out.trans hb2)
  have hba := below_alloc w2 (.cells #[.int .i64 3, .int .i64 2, txt [], .slice p2 0 c2] 32)
  have HW3 := hid (HW2.out.trans (hba.mono HW2.out.size))
  have HX3 := hid (heap_alloc_new w2 (.cells #[.int .i64 3, .int .i64 2, txt [], .slice p2 0 c2] 32))
  have HD3 := hid (do_new (hS2.below hba) rB HDb.out (by decide) (txs_small (by decide)) 0 H64.out)
  have HA2 := hid hA2
  have HNx : Hid (¬ O2 w2.heap.size) := fun h => by have := (hS2.lt _ (hS2.sub _ h)).2; omega
  clear hh hS2 hu2 hr2 hb2 hA2 hba HD1
  rw [show (w2.alloc (.cells #[.int .i64 3, .int .i64 2, txt [], .slice p2 0 c2] 32)).heap.size = w2.heap.size + 1 by simp] at HD3
  simp only [wholeR, Re.Rep.kind, Re.Rep.int, Re.Rep.text, Re.Rep.list, List.length_nil] at ⊢
  go_wp2_with fail
  refine HD3.out.mono ?_; rintro e w4 ⟨v4, rfl, hh⟩
  obtain ⟨O4, A4, hS4, hu4, hk4, -, hz4, hr4⟩ := hh.out
  rw [alive2] at hS4 hr4
  obtain ⟨d4, p4, c4, -, rfl, -, hrow⟩ := hr4.open
  obtain ⟨g, o, hp4, hg4, hel⟩ := hrow (by show [bulkR [97], bulkR [98]] ≠ []; exact List.cons_ne_nil _ _)
  obtain ⟨q1, c1, -, -, y2, -, -⟩ := hel 1 (by show 1 < 2; decide)
  have hy2 : w4.cell? ⟨g, o + 6, none⟩ = some (txt [98]) := y2
  obtain ⟨hb4, hA4⟩ := hu4 w.heap.size HA2.out (Nat.le_trans HW2.out.size (by omega))
  have HW4 := hid (HW3.out.trans hb4)
  have hx4 := (hk4 w2.heap.size (by omega) HNx.out).1.trans HX3.out
  have hba := below_alloc w4 (.cells #[.int .i64 6, .int .i64 0, txt [], .slice p4 2 c4] 32)
  have HW5 := hid (HW4.out.trans (hba.mono HW4.out.size))
  have HX5 := hid ((hba.block w2.heap.size (Array.getElem?_eq_some_iff.1 hx4).1).trans hx4)
  have HY5 := hid (heap_alloc_new w4 (.cells #[.int .i64 6, .int .i64 0, txt [], .slice p4 2 c4] 32))
  have x1 := (cell_of_row _ _ 1 _ _ _ HX5.out).trans (show _ = some (Value.int .i64 2) from rfl)
  have x3 := (cell_of_row _ _ 3 _ _ _ HY5.out).trans (show _ = some (Value.slice p4 2 c4) from rfl)
  have x6 := cell_turn hy2 (hba.block g (block_lt_of_cell hy2))
  have HD5 := hid (do_new (hS4.below hba) rC HDc.out (by decide) (txs_small (by decide)) 0 H64.out)
  rw [show (w4.alloc (.cells #[.int .i64 6, .int .i64 0, txt [], .slice p4 2 c4] 32)).heap.size = w4.heap.size + 1 by simp] at HD5
  have HA4 := hid hA4
  clear hh hS4 hu4 hk4 hr4 hrow hel y2 hy2 hb4 hA4 hx4 hba hg4 HD3
  subst hp4
  simp only [bulksR, manyR, bulkR, List.map_cons, List.map_nil, Re.Rep.kind, Re.Rep.int, Re.Rep.text, Re.Rep.list, List.length_cons, List.length_nil] at ⊢
  go_wp2_with fail
  refine HD5.out.mono ?_; rintro e w6 ⟨v6, rfl, hh⟩
  obtain ⟨O6, A6, hS6, hu6, -, -, -, hr6⟩ := hh.out
  rw [alive3] at hS6 hr6
  obtain ⟨d6, p6, c6, -, rfl, -, -⟩ := hr6.open
  obtain ⟨hb6, -⟩ := hu6 w.heap.size HA4.out (Nat.le_trans HW5.out.size (by simp))
  have HW6 := hid (HW5.out.trans hb6)
  clear hh hS6 hu6 hr6 hb6 HD5
  simp only [fault, fType, Re.Rep.kind, Re.Rep.int, Re.Rep.text, Re.Rep.list, List.length_nil] at ⊢
  have hfl := fld_text
  go_wp2_with fail
  go_ret
  exact ⟨rfl, HW6.out⟩

end Go.Proofs.YtcbncdigejjcpaaGreatDoor.Ex

namespace Go.Proofs.YtcbncdigejjcpaaGreatDoor.Ex
open Re (Rep)

abbrev xV : Vl := plainV [120]
theorem right_x : RtV xV := rightB_iff.1 (plain_right (by decide))
theorem ends1 {k : Nm} (hk : k.length ≤ 1024) : doM 1099511627776 [] 0 [nSET, k, [120]] 7 = ([(k, xV, 0)], 7, okR) := by
  rw [doM_ok (c := 4) (by kernel_rfl) (by kernel_rfl) (early_any rfl rfl (by decide) (by decide) (by decide) (by decide))]
  have hp := put_new (room := 1099511627776) (now := 7) (e := 0) right_x hk (by decide) (.inl rfl)
  have hd : doC 1099511627776 (tickN 0 7) (tickL (tickN 0 7) []) 4 [nSET, k, [120]] = withM 1099511627776 7 [] (k, xV, 0) okR := rfl
  rw [hd]
  unfold withM
  rw [if_neg (show ¬ emptyV xV = true by decide), if_neg (by rw [hp]; decide), if_neg (by rw [hp]; decide)]
  unfold putLL
  rw [if_pos hp]
  rfl
theorem ends2 {k : Nm} (hk : k.length ≤ 1024) {n : Int} (h1 : 1 ≤ n) (h2 : n ≤ 1073741824) : doM 1099511627776 [(k, xV, 0)] 7 [nEXPIRE, k, Lib.itoa n] 7 = ([(k, xV, 7 + n)], 7, wholeR 1) := by
  have ht := (tell_itoa (n := n) (by omega) (by omega)).1
  rw [doM_ok (c := 40) (by kernel_rfl) (by kernel_rfl) (by
    unfold early
    rw [show numsC 40 [nEXPIRE, k, Lib.itoa n] = [Lib.itoa n] from rfl]
    simp [ht, kindC])]
  rw [show doC 1099511627776 (tickN 7 7) (tickL (tickN 7 7) [(k, xV, 0)]) 40 [nEXPIRE, k, Lib.itoa n] = ([(k, xV, 7 + n)], wholeR 1) from expire_one (now := 7) right_x hk (by decide) h1 h2 (by omega)]
  rfl
theorem tick_one {k : Nm} {v : Vl} {e t : Int} (h : t < e) : tickL t [(k, v, e)] = [(k, v, e)] := by
  unfold tickL
  simp [h]
theorem tick_gone {k : Nm} {v : Vl} {e t : Int} (h : e ≤ t) (h0 : e ≠ 0) : tickL t [(k, v, e)] = [] := by
  unfold tickL
  have : ¬ t < e := by omega
  simp [h0, this]
theorem ends3 {k : Nm} {n : Int} (h1 : 1 ≤ n) : doM 1099511627776 [(k, xV, 7 + n)] 7 [nTTL, k] 7 = ([(k, xV, 7 + n)], 7, wholeR n) := by
  have hv := val_some (get_one k xV (7 + n))
  rw [doM_ok (c := 41) (by kernel_rfl) (by kernel_rfl) (early_any rfl rfl (by decide) (by decide) (by decide) (by decide)), show tickN 7 7 = 7 from rfl, tick_one (by omega)]
  have hd : doC 1099511627776 7 [(k, xV, 7 + n)] 41 [nTTL, k] = ([(k, xV, 7 + n)], wholeR (if isIn [(k, xV, 7 + n)] k = false then -2 else if endOf [(k, xV, 7 + n)] k = 0 then -1 else endOf [(k, xV, 7 + n)] k - 7)) := rfl
  rw [hd, hv.2.2, hv.2.1, if_neg (by decide), if_neg (show ¬ (7 + n = 0) by omega), show 7 + n - 7 = n by omega]
theorem ends4 {k : Nm} {n m : Int} (h1 : 1 ≤ n) (h2 : 0 ≤ m) (h3 : m ≤ 2147483648) : ∃ L, doM 1099511627776 [(k, xV, 7 + n)] 7 [nEXISTS, k] (7 + m) = (L, 7 + m, wholeR (if m < n then 1 else 0)) := by
  have ht : tickN 7 (7 + m) = 7 + m := by unfold tickN; omega
  have hd : ∀ L now, doC 1099511627776 now L 6 [nEXISTS, k] = (L, wholeR ((if isIn L k then 1 else 0) + 0)) := fun _ _ => rfl
  by_cases h : m < n
  · refine ⟨[(k, xV, 7 + n)], ?_⟩
    rw [doM_ok (c := 6) (by kernel_rfl) (by kernel_rfl) (early_any rfl rfl (by decide) (by decide) (by decide) (by decide)), ht, tick_one (by omega), hd, (val_some (get_one k xV (7 + n))).2.2, if_pos h]
    rfl
  · refine ⟨[], ?_⟩
    rw [doM_ok (c := 6) (by kernel_rfl) (by kernel_rfl) (early_any rfl rfl (by decide) (by decide) (by decide) (by decide)), ht, tick_gone (by omega) (by omega), hd, if_neg h]
    rfl
end Go.Proofs.YtcbncdigejjcpaaGreatDoor.Ex
