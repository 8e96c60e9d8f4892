/- The keys of links' map, one by one: the contract of the library's iterator; they are collected. -/
import Derived.Test.YtjcfbnhmljlkpaaLkRng
import Derived.RangeFuncFrom
import Derived.Shelf.SlIter.Collect
namespace Go.Proofs.Ytjcfbnhmljlkpaa
open Go.RowKit Go.Maps
attribute [local go_sem] Oper.semAt_some

theorem abides_below {β : Type} {B : Nat} {J : β → World → Prop} (h : AbidesFrom B J) {s : β} {W W' : World} (hs : J s W) (hb : Below W.heap.size W W') : J s W' :=
  h s W W' none hs ⟨hb.os, hb.tape, hb.output, hb.size, fun k hk _ => hb.block k hk⟩ (fun r e => by cases e)
/-- what has come of the keys so far -/
structure ColP (D : DataW Value) (left : Lit → Bool) (ss : List (Int × Int)) : Prop where
  nodup : ss.Nodup
  mem : ∀ q, q ∈ ss ↔ IE q.1 q.2 ∧ Maps.has D (kl q.1 q.2) = true ∧ left (kl q.1 q.2) = false
theorem ColP.start (D : DataW Value) : ColP D (Maps.has D) [] := ⟨List.nodup_nil, fun q => by
  cases Maps.has D (kl q.1 q.2) <;> simp⟩
theorem ColP.step {D : DataW Value} {left : Lit → Bool} {ss : List (Int × Int)} (h : ColP D left ss) {f t : Int} (hi : IE f t) (hl : left (kl f t) = true) (hh : Maps.has D (kl f t) = true) : ColP D (fun z => left z && !z.sameKey (kl f t)) (ss ++ [(f, t)]) := by
  have hs : (kl f t).sameKey (kl f t) = true := WideAt.sameKey_self (kl_key _ _)
  refine ⟨?_, fun q => ?_⟩
  · refine List.nodup_append.2 ⟨h.nodup, by simp, fun a ha b hb e => ?_⟩
    rw [List.mem_singleton] at hb
    subst hb e
    have := ((h.mem _).1 ha).2.2
    simp only at this
    rw [hl] at this
    cases this
  · rw [List.mem_append, h.mem, List.mem_singleton]
    constructor
    · rintro (⟨a, b, c⟩ | rfl)
      · exact ⟨a, b, by simp [c]⟩
      · exact ⟨hi, hh, by simp [hs]⟩
    · rintro ⟨a, b, c⟩
      cases hq : left (kl q.1 q.2) with
      | false => exact .inl ⟨a, b, rfl⟩
      | true =>
        simp only [hq, Bool.true_and, Bool.not_eq_false'] at c
        obtain ⟨e1, e2⟩ := kl_inj a hi (WideAt.sameKey_eq c)
        exact .inr (Prod.ext e1 e2)
/-- all keys, each once -/
def AllK (D : DataW Value) (ss : List (Int × Int)) : Prop := ss.Nodup ∧ ∀ q, q ∈ ss ↔ IE q.1 q.2 ∧ Maps.has D (kl q.1 q.2) = true
theorem ColP.all {D : DataW Value} {left : Lit → Bool} {ss : List (Int × Int)} (h : ColP D left ss) (h0 : ∀ k, left k = false) : AllK D ss :=
  ⟨h.nodup, fun q => by rw [h.mem, h0]; simp⟩
set_option maxRecDepth 100000 in
set_option maxHeartbeats 1000000 in
theorem keys_stops (n bm m : Nat) (D : DataW Value) (w : World) (hn : 1 ≤ n) (hm : w.heap[bm]? = some (.cells #[.map (some m)] 51 (0, 0))) (hom : OM w m (size D) D) :
    SeqStopsK Fence.wide n Try.prog 37 #[.pointer (some ⟨bm, 0, none⟩)] (fun q : Int × Int => #[key q.1 q.2]) KeepsWalks (AllK D) (fun _ => True) (size D) w := by
  intro l J Jx W hW hJ hJx hY h0
  have hbm := (Array.getElem?_eq_some_iff.1 hm).1
  have hc : W.cell? ⟨bm, 0, none⟩ = some (.map (some m)) := cell_of_row W bm 0 _ _ _ ((hW.block bm hbm).trans hm)
  have hown : OM W m (size D) D := by
    have hbl := World.ownsMap.lt hom
    obtain ⟨es, clock, hb, Ft, hs, hD⟩ := hom
    exact ⟨es, clock, (hW.block m hbl).trans hb, Ft, hs, hD⟩
  have HO := hid hown
  have HJ := hid hJ
  have HY := hid hY
  have H0 := hid h0
  clear hm hom hW hJ hJx hY h0 hown hbm
  refine callsIn_of_wp Try.func37 rfl trivial ?_ rfl
  simp only [Try.ntmps37, List.size_toArray, List.length_cons, List.length_nil, Nat.reduceAdd, Nat.reduceSub, Array.replicate_succ, Array.replicate_zero, List.push_toArray, List.append_toArray, List.nil_append, List.cons_append]
  gi_wp2_with (first
    | (gi_at_range; refine wpListIn_range_own _ rfl _ 51 rfl 41 63 keyed Try.underlying51 Rv m (size D) D rfl HO.out ?_; intro w0 hrg0 hg0 hs0)
    | gi_in)
  try go_frame
  have HSt : Hid (∃ (left : Lit → Bool) (cnt : Nat) (ss : List (Int × Int)), RG w0 m W.heap.size (size D) D left cnt ∧ ss.length + cnt ≤ size D ∧ ColP D left ss ∧ J ss w0) :=
    ⟨_, _, [], hrg0, by simp, ColP.start D, HJ.out [] W w0 none H0.out hg0 (fun r e => by cases e)⟩
  clear hrg0 hg0 hs0 hc
  gi_loopw [3] (fun _ wr => ∃ (left : Lit → Bool) (cnt : Nat) (ss : List (Int × Int)), Hid (RG wr m W.heap.size (size D) D left cnt) ∧ Hid (ss.length + cnt ≤ size D) ∧ Hid (ColP D left ss) ∧ Hid (J ss wr))
    (fun _ wr => wr.rangeLeft m W.heap.size)
  case atStart => exact HSt.out
  case round =>
    obtain ⟨left, cnt, ss, Hrg, Hcs, HC, HJs⟩ := hrel
    gi_wp2_with (first
      | (gi_at_next; refine wpListIn_next_ranges _ rfl _ rfl 41 keyed Rv (fun q : Int × Int => key q.1 q.2) id (fun k l hk => by obtain ⟨f, t, e, _⟩ := key_inv hk; exact ⟨(f, t), e⟩) (fun v _ _ => ⟨v, rfl⟩) m W.heap.size (size D) _ _ _ rfl Hrg.out ?_ ?_)
      | gi_in)
    · intro hc0 hl0
      gi_wp2
      go_end0
      exact ⟨⟨_, rfl⟩, .inl ⟨ss, HC.out.all hl0, HJs.out⟩⟩
    · intro f t c k yd yp w2 cnt2 hkey hlk hv hat hrg2 hlt hg2 hs2 hen
      obtain ⟨f', t', e, hi, rfl⟩ := key_inv hkey
      simp only [key, Value.agg.injEq, Array.mk.injEq, List.cons.injEq, Value.int.injEq, true_and, and_true] at e
      obtain ⟨rfl, rfl⟩ := e
      have hb3 := below_alloc w2 (.cells #[.int .i64 f, .int .i64 t] 41)
      have HJ3 := hid (abides_below HJ.out (HJ.out ss wr w2 (some W.heap.size) HJs.out hg2 (fun r e => by cases e; exact ⟨Nat.le_refl _, Hrg.out.iter_walk⟩)) hb3)
      have HRg := hid (RG.below hrg2 hb3)
      have HLt := hid hlt
      have HC2 := hid (HC.out.step hi hlk (has_true_of_atKey hat))
      have hln : (ss ++ [(f, t)]).length + cnt2 ≤ size D := by
        have h1 := Hcs.out
        rw [List.length_append, List.length_singleton]
        omega
      have HLn := hid hln
      clear hln
      have hlen : ss.length < size D := by have := Hcs.out; omega
      obtain ⟨fn, tmps, assign, body, hy, hR⟩ := HY.out ss (f, t) _ HJ3.out hlen
      clear hs2 hkey hlk hv hat hrg2 hlt hg2 hb3 hlen hi
      gi_wp2
      refine hR.mono ?_
      rintro e W3 (⟨rfl, hJ4, hk4⟩ | ⟨rfl, hJx4⟩)
      · have HRg3 := hid (World.ranges.of_walks HRg.out hk4)
        have HJ4 := hid hJ4
        clear hJ4 hk4 hen hy hR
        gi_wp2
        go_roundw
        case rel => exact ⟨_, cnt2, _, HRg3, HLn, HC2, HJ4⟩
        case measure => rw [World.ranges.left_eq HRg3.out, World.ranges.left_eq Hrg.out]; exact HLt.out
      · have HX := hid hJx4
        clear hJx4 hen hy hR
        gi_wp2
        refine bodyPost_ret (results_none rfl _ _ _) rfl ?_
        exact ⟨⟨_, rfl⟩, .inr ⟨_, trivial, HX.out⟩⟩

end Go.Proofs.Ytjcfbnhmljlkpaa
