/- One piece more: what a parser tells behind it; commands put behind others. -/
import Derived.Test.YtjcegiponjpjiaaDoorMono
import Derived.Test.YtjcegiponjpjiaaDoorConv
import Derived.Test.YtjcegiponjpjiaaDoorRefAll
namespace Go.Proofs.YtjcegiponjpjiaaDoor
open Go.RowKit

theorem Runs.left_le {S s' : List UInt8} {c : List (List (List UInt8))} {e : Int} (h : Runs S c s' e) : s'.length + c.length ≤ S.length := by
  induction h with
  | more h => simp
  | bad h _ => simp
  | skip h _ ih => have := one_rest h; omega
  | some h _ _ ih => have := one_rest h; simp; omega
theorem push_cmds {B B2 : Nat} {W : World} {v : Value} {L L2 : List (List (List UInt8))} {a : Option Addr} {n cap : Nat} (h : Outs B W v L) (h2 : Outs B2 W (.slice a n cap) L2) (hn : n = L2.length) (hB : B ≤ W.heap.size) (hl : L.length + L2.length ≤ 1000000000) :
    ∃ v' W', (Builtin.append_ #[27, 27] 27 #[v, .slice a n cap]).run Tryd.prog W = .ok v' W' ∧ Outs B W' v' (L ++ L2) ∧ Below B W W' ∧ ∀ (g : Nat) (cur : Array Value) (fr : Nat × Nat) (t : TypeId), ¬ t = 36 → W.heap[g]? = some (.cells cur t fr) → W'.heap[g]? = some (.cells cur t fr) := by
  subst hn
  obtain ⟨i0, hi, hz0, hz1, hz2⟩ := info_parts infoStrs
  by_cases hL2 : L2 = []
  · subst hL2
    obtain ⟨av, cv, rfl⟩ := h.shape
    have hcv : L.length ≤ cv := by
      obtain ⟨xs, h, _⟩ := h
      rcases h.2 with ⟨e, h0⟩ | ⟨g, cap', cur, e, _, _, hle, _⟩
      · omega
      · injection e with _ _ e; omega
    have hsrc : Src Tryd.prog i0.size 27 (.slice a 0 cap) 0 [] W := by
      rw [hz1]
      cases a with
      | none => exact Src.ofNil W Tryd.underlying27 cap
      | some q => exact Src.ofSlice W Tryd.underlying27 q 0 cap [] rfl (fun j u hj => by cases hj) (fun u hu => by cases hu)
    rw [List.append_nil]
    exact ⟨_, _, run_append_nothing (P := Tryd.prog) W 27 27 27 36 i0 Tryd.underlying27 hi av L.length cv hcv (.slice a 0 cap) hsrc, h, Below.refl _ _, fun _ _ _ _ _ h => h⟩
  · obtain ⟨xs2, ho2, hx2⟩ := h2
    obtain ⟨g2, hg2⟩ : ∃ g2, a = some ⟨g2, 0, none⟩ := by
      rcases ho2.2 with ⟨_, h0⟩ | ⟨g, cap', cur, e, _⟩
      · exact absurd (List.eq_nil_of_length_eq_zero h0) hL2
      · injection e with e _ _; exact ⟨g, e⟩
    subst hg2
    obtain ⟨xs, h, hx⟩ := h
    have hxl2 : xs2.length = L2.length := by rw [ho2.1]; omega
    obtain ⟨v', w', hrun, ho, hgr, _⟩ := run_append_own (P := Tryd.prog) W B 27 27 36 i0 (.slice none 0 0) 1 24 Tryd.underlying27 hi hz0 hz1 hz2 rfl (by decide) _ _ _ h ⟨g2, 0, none⟩ L2.length cap xs2 (by rw [ho2.1])
      (World.ownsRow.cells ho2 rfl)
      (fun u hu => by
        obtain ⟨i, hi, rfl⟩ := List.getElem_of_mem hu
        obtain ⟨A, h1, _⟩ := hx2 i (by omega)
        rw [List.getElem?_eq_getElem hi] at h1
        injection h1 with h1
        rw [h1]; rfl) (by unfold maxLen; omega) (by omega) hB
    have hSt : ∀ (g : Nat) (cur : Array Value) (fr : Nat × Nat) (t : TypeId), ¬ t = 36 → W.heap[g]? = some (.cells cur t fr) → w'.heap[g]? = some (.cells cur t fr) := fun g cur fr t hne h0 => by
      have hlt := (Array.getElem?_eq_some_iff.1 h0).1
      have hne2 : some g ≠ v.ownBlock := by
        rcases h.2 with ⟨rfl, _⟩ | ⟨g', cap', cur', rfl, _, hg', _⟩
        · simp [Value.ownBlock]
        · intro e
          simp only [Value.ownBlock, Option.some.injEq] at e
          subst e
          rw [hg'] at h0
          injection h0 with h0
          injection h0 with _ h0
          exact absurd h0.symm hne
      exact (hgr.block g hlt hne2).trans h0
    have hRow : ∀ A' m f, W.rowIs A' 9 m f → w'.rowIs A' 9 m f := fun A' m f hr => by
      obtain ⟨c, hc, h2⟩ := hr
      exact ⟨c, hSt A' c _ _ (by decide) hc, h2⟩
    refine ⟨v', w', hrun, ⟨xs ++ xs2, by rw [List.length_append]; exact ho, fun i hi => ?_⟩, (Below.refl B W).grown hgr hB (fun k hk => (World.ownsRow.lt h k hk).1), hSt⟩
    rw [List.length_append] at hi
    have hxl : xs.length = L.length := by rw [h.1]; omega
    by_cases hin : i < L.length
    · obtain ⟨A', h1, h2⟩ := hx i hin
      refine ⟨A', ?_, ?_⟩
      · rw [List.getElem?_append_left (by omega), h1, List.getElem_append_left hin]
      · rw [List.getElem_append_left hin]; exact hRow _ _ _ h2
    · obtain ⟨A', h1, h2⟩ := hx2 (i - L.length) (by omega)
      refine ⟨A', ?_, ?_⟩
      · rw [List.getElem?_append_right (by omega), hxl, h1, List.getElem_append_right (by omega)]
      · rw [List.getElem_append_right (by omega)]; exact hRow _ _ _ h2
/-- one piece more -/
theorem piece_step (b : Nat) (S x T : List UInt8) (c : List (List (List UInt8))) (s' : List UInt8) (e : Int) (v : Value) (W1 : World) (q : Option Addr) (cap : Nat) (hE : Envs W1) (h3 : 3 ≤ b) (hR : Runs S c s' e) (hP : Par W1 b s' e) (hO : Outs b W1 v c) (hq : At W1 q x) (hT : T = S ++ x) (hS : S.length ≤ 20000) (hx : x.length ≤ 2000) :
    ∃ c2 s2 e2, Runs T (c ++ c2) s2 e2 ∧ c2.length ≤ 22000 ∧ Calls Tryd.prog 11 #[.pointer (some ⟨b, 0, none⟩), .slice q x.length cap] W1 (fun r w2 => r = .returned (.tuple #[]) ∧ Hid (Calls Tryd.prog 12 #[.pointer (some ⟨b, 0, none⟩), .int .i64 ((T.length : Int) + 1)] w2 (fun r w3 => ∃ a cap, r = .returned (.tuple #[.slice a c2.length cap, .int .i64 e2]) ∧ Hid (Outs b w3 (.slice a c2.length cap) c2 ∧ Par w3 b s2 e2 ∧ Outs b w3 v c ∧ Below b W1 w3)))) := by
  have hTl : T.length = S.length + x.length := by rw [hT, List.length_append]
  have he : ((T.length + 1 : Nat) : Int) = (T.length : Int) + 1 := by omega
  have hll := hR.left_le
  by_cases h0 : e = 0
  · subst h0
    obtain ⟨c2, s2, e2, hR2, hc2⟩ := runs_ex (s' ++ x).length (s' ++ x) (Nat.le_refl _)
    rw [List.length_append] at hc2
    refine ⟨c2, s2, e2, by rw [hT]; exact hR.app rfl hR2, by omega, ?_⟩
    refine (feed_par b s' x q cap W1 hP hq (by omega)).mono ?_
    rintro r w2 ⟨rfl, hh⟩
    obtain ⟨hp2, hf⟩ := hh.out
    have hb2 := hf.below b (Nat.le_refl _)
    have hA := all_any b (s' ++ x) s2 c2 e2 (T.length + 1) w2 (hE.below hb2 h3) h3 hp2 hR2 (by omega) (by omega) (by omega)
    rw [he] at hA
    refine ⟨rfl, hA.mono ?_⟩
    rintro r w3 ⟨a, cap3, rfl, hh⟩
    obtain ⟨ho, hp3, hon⟩ := hh.out
    obtain ⟨pv, hpv, _⟩ := hp2
    have hbl : b ≤ w2.heap.size := Nat.le_of_lt hpv.lt
    exact ⟨a, cap3, rfl, ho.base hbl, hp3, (hO.kept hf.kept).kept (Kept.of_only hpv hon), hb2.trans (hon.below (Nat.le_refl _) hbl)⟩
  · have hs' := hR.err.2 h0
    have h1 := hR.err.1
    subst hs'
    refine ⟨[], [], e, by rw [hT, List.append_nil]; exact hR.bad_app h0, by simp, ?_⟩
    obtain ⟨pv, hpv, _⟩ := id hP
    refine (feed_ill b pv e (.slice q x.length cap) W1 hpv h0).mono ?_
    rintro r w2 ⟨rfl, rfl⟩
    have hA := all_ill b e (T.length + 1) w2 hP h0 h1 (by omega) (by omega)
    rw [he] at hA
    refine ⟨rfl, hA.mono ?_⟩
    rintro r w3 ⟨rfl, hh⟩
    obtain ⟨hp3, hon⟩ := hh.out
    exact ⟨none, 0, rfl, Outs.nil _ _, hp3, hO.kept (Kept.of_only hpv hon), hon.below (Nat.le_refl _) (Nat.le_of_lt hpv.lt)⟩

end Go.Proofs.YtjcegiponjpjiaaDoor
