/- All commands of a stream, by the document: ref All. -/
import Derived.Test.YtjcegiponjpjiaaDoorRefOne2
import Derived.Test.YtjcegiponjpjiaaDoorOuts
namespace Go.Proofs.YtjcegiponjpjiaaDoor
open Go.RowKit

/-- commands as ref All tells them -/
def ROuts (B : Nat) (W : World) (v : Value) (L : List (List (List UInt8))) : Prop := ∃ xs, W.ownsRow B 36 1 v L.length xs ∧ ∀ i (h : i < L.length), ∃ q c, xs[i]? = some (.slice q L[i].length c) ∧ W.ownsRow B 9 1 (.slice q L[i].length c) L[i].length (L[i].map strV)
theorem ROuts.nil (B : Nat) (W : World) : ROuts B W (.slice none 0 0) [] := ⟨[], World.ownsRow_nil W B _ _, fun i h => absurd h (by simp)⟩
theorem owns_kept {B e size n : Nat} {W W' : World} {v : Value} {xs : List Value} (h : W.ownsRow B e size v n xs) (he : e = 9 ∨ e = 36) (hk : Kept W W') : W'.ownsRow B e size v n xs := by
  refine ⟨h.1, ?_⟩
  rcases h.2 with h | ⟨g, cap, cur, e1, hg, h3, r⟩
  · exact .inl h
  · exact .inr ⟨g, cap, cur, e1, hg, hk g cur _ _ he h3, r⟩
theorem owns_base {B B' e size n : Nat} {W : World} {v : Value} {xs : List Value} (h : W.ownsRow B e size v n xs) (hB : B' ≤ B) : W.ownsRow B' e size v n xs := by
  refine ⟨h.1, ?_⟩
  rcases h.2 with h | ⟨g, cap, cur, e1, hg, r⟩
  · exact .inl h
  · exact .inr ⟨g, cap, cur, e1, Nat.le_trans hB hg, r⟩
theorem ROuts.shape {B : Nat} {W : World} {v : Value} {L : List (List (List UInt8))} (h : ROuts B W v L) : ∃ p c, v = .slice p L.length c := by
  obtain ⟨xs, h, _⟩ := h
  exact own_shape h
theorem ROuts.kept {B : Nat} {W W' : World} {v : Value} {L : List (List (List UInt8))} (h : ROuts B W v L) (hk : Kept W W') : ROuts B W' v L := by
  obtain ⟨xs, h, hx⟩ := h
  refine ⟨xs, owns_kept h (.inr rfl) hk, fun i hi => ?_⟩
  obtain ⟨q, c, h1, h2⟩ := hx i hi
  exact ⟨q, c, h1, owns_kept h2 (.inl rfl) hk⟩
theorem ROuts.cmds {B : Nat} {W : World} {a : Option Addr} {n c : Nat} {L : List (List (List UInt8))} (h : ROuts B W (.slice a n c) L) : Cmds W a L := fun hne => by
  obtain ⟨xs, h, hx⟩ := h
  rcases h.2 with ⟨e, h0⟩ | ⟨g, cap, cur, e, _⟩
  · exact absurd (List.eq_nil_of_length_eq_zero h0) hne
  · injection e with e1 e2 e3
    subst e1
    subst e2
    refine ⟨g, 0, rfl, fun i hi => ?_⟩
    obtain ⟨q, c, h1, h2⟩ := hx i hi
    refine ⟨q, c, by rw [Nat.zero_add, h.cellAt i (by omega)]; exact h1, fun hne => ?_⟩
    rcases h2.2 with ⟨e, h0⟩ | ⟨g', cap', cur', e, _⟩
    · exact absurd (List.eq_nil_of_length_eq_zero h0) hne
    · injection e with e1 e2 e3
      subst e1
      subst e3
      refine ⟨g', 0, rfl, fun k hk => ?_⟩
      rw [Nat.zero_add, h2.cellAt k (by omega)]
      simp [strV, hk]
theorem push_row {B : Nat} {W : World} {v : Value} {L : List (List (List UInt8))} {q : Option Addr} {c : Nat} {l : List (List UInt8)} (h : ROuts B W v L) (hA : W.ownsRow B 9 1 (.slice q l.length c) l.length (l.map strV)) (hB : B ≤ W.heap.size) (hl : L.length ≤ 1000000000) :
    ∃ v' W', (Builtin.append_ #[27, 27] 27 #[v, .slice (some ⟨W.heap.size, 0, none⟩) 1 1]).run Tryd.prog (W.alloc (.cells #[.slice q l.length c] 36)) = .ok v' W' ∧ ROuts B W' v' (L ++ [l]) ∧ Below B W W' ∧ ∀ (g : Nat) (cur : Array Value) (fr : Nat × Nat), W.heap[g]? = some (.cells cur 47 fr) → W'.heap[g]? = some (.cells cur 47 fr) := by
  obtain ⟨i0, hi, hz0, hz1, hz2⟩ := info_parts infoStrs
  obtain ⟨xs, h, hx⟩ := h
  have hba := below_alloc W (.cells #[.slice q l.length c] 36)
  have hown' := owns_below h hba
  obtain ⟨v', w', hrun, ho, hgr, _⟩ := run_append_own (P := Tryd.prog) (W.alloc (.cells #[.slice q l.length c] 36)) B 27 27 36 i0 (.slice none 0 0) 1 24 Tryd.underlying27 hi hz0 hz1 hz2 rfl (by decide) _ _ _ hown' ⟨W.heap.size, 0, none⟩ 1 1 [.slice q l.length c] rfl
    (fun j u hj => by
      rw [Go.WideShapes.add_plain, cell_of_row _ _ _ _ _ _ (heap_alloc_new W _)]
      simpa using hj)
    (fun u hu => by rw [List.mem_singleton.1 hu]; rfl) (by unfold maxLen; omega) (by omega) (by simp; omega)
  have hSt : ∀ (g : Nat) (cur : Array Value) (fr : Nat × Nat) (t : TypeId), ¬ t = 36 → W.heap[g]? = some (.cells cur t fr) → w'.heap[g]? = some (.cells cur t fr) := fun g cur fr t hne h0 => by
    have hlt0 := (Array.getElem?_eq_some_iff.1 h0).1
    have ht := (hba.block g hlt0).trans h0
    have hlt := (Array.getElem?_eq_some_iff.1 ht).1
    have hne2 : some g ≠ v.ownBlock := by
      rcases hown'.2 with ⟨rfl, _⟩ | ⟨g', cap, cur', rfl, _, hg', _⟩
      · simp [Value.ownBlock]
      · intro e
        simp only [Value.ownBlock, Option.some.injEq] at e
        subst e
        rw [hg'] at ht
        injection ht with ht
        injection ht with _ ht
        exact absurd ht.symm hne
    exact (hgr.block g hlt hne2).trans ht
  have hRow : ∀ u (m : List (List UInt8)), W.ownsRow B 9 1 u m.length (m.map strV) → w'.ownsRow B 9 1 u m.length (m.map strV) := fun u m hr => by
    refine ⟨hr.1, ?_⟩
    rcases hr.2 with h | ⟨g, cap, cur, e1, hg, h3, r⟩
    · exact .inl h
    · exact .inr ⟨g, cap, cur, e1, hg, hSt g cur _ _ (by decide) h3, r⟩
  refine ⟨v', w', hrun, ⟨xs ++ [.slice q l.length c], by rw [List.length_append]; exact ho, fun i hi => ?_⟩, ((Below.refl B W).alloc hB _).grown hgr (by simp; omega) (fun k hk => (World.ownsRow.lt h k hk).1), fun g cur fr h0 => hSt g cur fr _ (by decide) h0⟩
  rw [List.length_append] at hi
  have hxl : xs.length = L.length := by rw [h.1]; omega
  by_cases hin : i < L.length
  · obtain ⟨q', c', h1, h2⟩ := hx i hin
    refine ⟨q', c', ?_, ?_⟩
    · rw [List.getElem?_append_left (by omega), h1, List.getElem_append_left hin]
    · rw [List.getElem_append_left hin]; exact hRow _ _ h2
  · have hie : i = L.length := by simp at hi; omega
    subst hie
    refine ⟨q, c, ?_, ?_⟩
    · rw [List.getElem?_append_right (by omega), hxl]; simp
    · rw [List.getElem_append_right (by omega)]; simp; exact hRow _ _ hA
theorem kept_setCell {W : World} {g k : Nat} {old : Array Value} {u : Value} (hg : W.heap[g]? = some (.cells old 47 (0, 0))) : Kept W (W.setCell ⟨g, k, none⟩ u) := fun g' cur fr t ht h0 => by
  rw [heap_setCell_other W ⟨g, k, none⟩ g' u (fun e => by
    simp at e
    subst e
    rw [hg] at h0
    injection h0 with h0
    injection h0 with _ h0
    rcases ht with rfl | rfl
    · exact absurd h0 (by decide)
    · exact absurd h0 (by decide))]
  exact h0
set_option maxHeartbeats 2000000 in
set_option maxRecDepth 100000 in
/-- ref All -/
theorem rall_any (s : List UInt8) (w : World) (hl : s.length ≤ 100000000) :
    Calls Tryd.prog 13 #[.string ⟨s.toArray⟩] w fun e w' => ∃ c s' x p cap, Runs s c s' x ∧ e = .returned (.tuple #[.slice p c.length cap, .int .i64 s'.length, .int .i64 x]) ∧ Hid (ROuts w.heap.size w' (.slice p c.length cap) c ∧ Below w.heap.size w w') := by
  go_enter Tryd.func13, Tryd.ntmps13
  go_wp2
  go_loopw [5, 6, 7] (fun v5 v6 _ W => ∃ (at_ : Nat) (c : List (List (List UInt8))), v6 = .int .i64 at_ ∧ at_ ≤ s.length ∧ c.length ≤ at_ ∧ Hid (ROuts w.heap.size W v5 c) ∧ Hid (Below w.heap.size w W) ∧ Hid (∀ c' s' x, Runs (s.drop at_) c' s' x → Runs s (c ++ c') s' x)) (fun _ v6 _ _ => s.length - (intOf v6).toNat)
  case atStart => exact ⟨0, [], rfl, Nat.zero_le _, Nat.le_refl _, ROuts.nil _ _, Below.refl _ _, fun c' s' x h => by rw [List.drop_zero] at h; exact h⟩
  case round =>
    obtain ⟨at_, c, rfl, hat, hcl, HO, HB, HR⟩ := hrel
    obtain ⟨p5, c5, rfl⟩ := HO.out.shape
    by_cases hin : at_ < s.length
    · have hiz : (at_ : Int) < (s.length : Int) := by omega
      have H1 := hid (rone_any s at_ wr hat (by omega))
      go_wp2_with fail
      refine H1.out.mono ?_; rintro e w1 ⟨v, rfl, hh⟩
      obtain ⟨ht, hb1⟩ := hh.out
      have hB1 := HB.out.trans (hb1.mono HB.out.size)
      have hO1 := HO.out.kept (Kept.of_below hb1)
      unfold OneTold at ht
      cases hbk : one (s.drop at_) with
      | stop x =>
        rw [hbk] at ht
        simp only at ht
        subst ht
        have hx0 := one_stop hbk
        have hba := below_alloc w1 (.cells #[.slice none 0 0, .int .i64 0, .int .i64 (errOf x)] 47)
        have HO2 := hid (hO1.kept (Kept.of_below hba))
        have HB2 := hid (hB1.trans (hba.mono hB1.size))
        by_cases hx : x = -1
        · subst hx
          have HRn := hid (HR.out _ _ _ (.more hbk))
          have HSub : Hid ((s.length : Int) - (at_ : Int) = ((s.drop at_).length : Int)) := by unfold Hid; rw [List.length_drop]; omega
          have hE : errOf (-1) = 0 := rfl
          rw [hE] at HO2 HB2 ⊢
          clear hE hba hh hb1 hB1 hO1 hbk HO HB HR H1 hx0
          rw [List.append_nil] at HRn
          go_wp2
          go_ret3
          exact ⟨c, s.drop at_, 0, p5, c5, HRn.out, by rw [← HSub.out]; rfl, HO2.out, HB2.out⟩
        · have HRn := hid (HR.out _ _ _ (.bad hbk hx))
          have hE : errOf x = x := by unfold errOf; rw [if_neg hx]
          rw [hE] at HO2 HB2 ⊢
          rw [List.append_nil] at HRn
          have hx2 : (x != 0) = true := by simp [bne, hx0]
          have hx3 : (x == 0) = false := beq_eq_false_iff_ne.2 hx0
          clear hE hba hh hb1 hB1 hO1 hbk HO HB HR H1
          go_wp2
          go_region
          all_goals go_wp2
          all_goals go_ret3
          all_goals
            first
            | exact ⟨c, [], x, p5, c5, HRn.out, rfl, HO2.out, below_drawn HB2.out 1⟩
            | exact ⟨c, [], x, HRn.out, p5, c5, rfl, HO2.out, below_drawn HB2.out 1⟩
      | got l r =>
        rw [hbk] at ht
        simp only at ht
        obtain ⟨pl, cl, rfl, hol⟩ := ht
        have hrs : r <:+ s := (one_suffix hbk).trans (List.drop_suffix _ _)
        have hrl := one_rest hbk
        obtain ⟨AT, hAT⟩ : ∃ AT, AT = s.length - r.length := ⟨_, rfl⟩
        rw [← hAT]
        have hATg : at_ < AT := by simp at hrl; omega
        have hATl : AT ≤ s.length := by omega
        have hATp : ((AT : Int) == 0) = false := beq_eq_false_iff_ne.2 (by omega)
        have hrd : s.drop AT = r := by rw [hAT]; exact suffix_drop hrs
        have hba := below_alloc w1 (.cells #[.slice pl l.length cl, .int .i64 (AT : Int), .int .i64 0] 47)
        have hO2 := hO1.kept (Kept.of_below hba)
        have hB2 := hB1.trans (hba.mono hB1.size)
        have hol2 := owns_base (owns_below hol hba) HB.out.size
        have hX2 := heap_alloc_new w1 (.cells #[.slice pl l.length cl, .int .i64 (AT : Int), .int .i64 0] 47)
        by_cases hl0 : l = []
        · subst hl0
          have HRn : Hid (∀ c' s' x, Runs (s.drop AT) c' s' x → Runs s (c ++ c') s' x) := fun c' s' x h => HR.out _ _ _ (.skip hbk (by rw [hrd] at h; exact h))
          have HO2 := hid hO2
          have HB2 := hid hB2
          simp only [List.length_nil]
          simp only [List.length_nil] at HO2 HB2
          clear hba hh hb1 hB1 hO1 hbk HO HB HR H1 hol hol2 hX2 hO2 hB2 hrs hrl hAT hrd
          go_wp2
          exact ⟨⟨AT, c, rfl, hATl, by omega, HO2.out, HB2.out, HRn.out⟩, by simp [intOf]; omega⟩
        · have HRn : Hid (∀ c' s' x, Runs (s.drop AT) c' s' x → Runs s ((c ++ [l]) ++ c') s' x) := fun c' s' x h => by
            rw [List.append_assoc]
            exact HR.out _ _ _ (.some hbk hl0 (by rw [hrd] at h; exact h))
          have hlp : (0 : Int) < (l.length : Int) := by have := List.length_pos_iff.2 hl0; omega
          obtain ⟨v', w3, hrun, ho3, hb3, hst3⟩ := push_row hO2 hol2 hB2.size (by omega)
          rw [show (w1.alloc (.cells #[.slice pl l.length cl, .int .i64 (AT : Int), .int .i64 0] 47)).heap.size = w1.heap.size + 1 by simp] at hrun
          have hX3 := hst3 _ _ _ hX2
          have x1 := cell_of_row _ w1.heap.size 1 _ _ _ hX3
          simp only [List.getElem?_toArray, List.getElem?_cons_zero, List.getElem?_cons_succ] at x1
          have HRun := hid hrun
          have HO3 := hid ho3
          have HB3 := hid (hB2.trans hb3)
          have HCl : Hid ((c ++ [l]).length ≤ AT) := by unfold Hid; simp; omega
          clear hba hh hb1 hB1 hO1 hbk HO HB HR H1 hol hol2 hX2 hO2 hB2 hrs hrl hAT hrd hrun ho3 hb3 hst3 hX3
          go_wp2_with (at_builtin; refine wpList_append_runs rfl _ _ 27 27 rfl _ _ _ _ rfl rfl HRun.out ?_)
          exact ⟨⟨AT, c ++ [l], rfl, hATl, HCl.out, HO3.out, HB3.out, HRn.out⟩, by simp [intOf]; omega⟩
    · have hiz : ¬ ((at_ : Int) < (s.length : Int)) := by omega
      have hd : s.drop at_ = [] := List.drop_eq_nil_of_le (by omega)
      have HRn := hid (HR.out [] [] 0 (by rw [hd]; exact .more (by kernel_rfl)))
      rw [List.append_nil] at HRn
      clear hd HR
      go_wp2
      go_ret3
      first
      | exact ⟨c, [], 0, HRn.out, p5, c5, rfl, HO.out, HB.out⟩
      | exact ⟨c, [], 0, p5, c5, HRn.out, rfl, HO.out, HB.out⟩

end Go.Proofs.YtjcegiponjpjiaaDoor
