/- One command by the document, where its line begins with a star: ref One. -/
import Derived.Test.YtjcegiponjpjiaaDoorRefOne1
namespace Go.Proofs.YtjcegiponjpjiaaDoor
open Go.RowKit

theorem owns_setCell {W : World} {B e size n g t k : Nat} {v u : Value} {xs : List Value} {old : Array Value} (h : W.ownsRow B e size v n xs) (hg : W.heap[g]? = some (.cells old t (0, 0))) (ht : ¬ t = e) : (W.setCell ⟨g, k, none⟩ u).ownsRow B e size v n xs := by
  refine ⟨h.1, ?_⟩
  rcases h.2 with h | ⟨g', cap, cur, h1, h2, h3, h4⟩
  · exact .inl h
  · refine .inr ⟨g', cap, cur, h1, h2, ?_, h4⟩
    rw [heap_setCell_other W ⟨g, k, none⟩ g' u (fun e => by
      simp at e
      subst e
      rw [h3] at hg
      injection hg with hg
      injection hg with _ hg
      exact ht hg.symm)]
    exact h3
theorem push_text {B : Nat} {W : World} {v : Value} {L : List (List UInt8)} {A : Nat} {x : List UInt8} (h : W.ownsRow B 9 1 v L.length (L.map strV)) (hA : W.heap[A]? = some (.cells #[.string ⟨x.toArray⟩] 9 (0, 0))) (hB : B ≤ W.heap.size) (hl : L.length ≤ 100000) :
    ∃ v' W', (Builtin.append_ #[36, 36] 36 #[v, .slice (some ⟨A, 0, none⟩) 1 1]).run Tryd.prog W = .ok v' W' ∧ W'.ownsRow B 9 1 v' (L ++ [x]).length ((L ++ [x]).map strV) ∧ Below B W W' ∧ ∀ (g : Nat) (cur : Array Value) (fr : Nat × Nat), W.heap[g]? = some (.cells cur 47 fr) → W'.heap[g]? = some (.cells cur 47 fr) := by
  obtain ⟨i0, hi, hz0, hz1, hz2⟩ := info_parts infoStr
  obtain ⟨v', w', hrun, ho, hgr, _⟩ := run_append_own (P := Tryd.prog) W B 36 36 9 i0 (.string ⟨#[]⟩) 1 16 Tryd.underlying36 hi hz0 hz1 hz2 rfl (by decide) _ _ _ h ⟨A, 0, none⟩ 1 1 [strV x] rfl
    (fun j u hj => by
      rw [Go.WideShapes.add_plain, cell_of_row _ _ _ _ _ _ hA]
      simpa [strV] using hj)
    (fun u hu => by rw [List.mem_singleton.1 hu]; rfl) (by unfold maxLen; omega) (by omega) hB
  refine ⟨v', w', hrun, by rw [List.map_append, List.length_append]; exact ho, (Below.refl B W).grown hgr hB (fun k hk => (World.ownsRow.lt h k hk).1), fun g cur fr h0 => ?_⟩
  have hlt := (Array.getElem?_eq_some_iff.1 h0).1
  refine (hgr.block g hlt ?_).trans h0
  rcases h.2 with ⟨rfl, _⟩ | ⟨g', cap, cur', rfl, _, hg', _⟩
  · simp [Value.ownBlock]
  · intro e
    simp only [Value.ownBlock, Option.some.injEq] at e
    subst e
    rw [hg'] at h0
    injection h0 with h0
    injection h0 with _ h0
    exact absurd h0 (by decide)
set_option maxHeartbeats 2000000 in
set_option maxRecDepth 100000 in
theorem rone_star (s : List UInt8) (a k : Nat) (w : World) (hl : s.length ≤ 140737488300000) (h1 : lineAt (s.drop a) = some k) (h42 : (s.drop a).head? = some 42) :
    Calls Tryd.prog 19 #[.string ⟨s.toArray⟩, .int .i64 a] w fun e w' => ∃ v, e = .returned v ∧ Hid (OneTold w.heap.size w' s a v ∧ Below w.heap.size w w') := by
  have hdl : (s.drop a).length = s.length - a := by simp
  obtain ⟨hk1, hk5, _⟩ := line_last h1
  have hal : a < s.length := by omega
  have HL := hid fun W => rline_any s a W (by omega) (by omega)
  rw [lineVal_some h1] at HL
  have hone := one_star h1 h42
  obtain ⟨K, hK⟩ : ∃ K, K = a + k + 1 := ⟨_, rfl⟩
  rw [← hK] at HL
  have hKl : K ≤ s.length := by omega
  have hsl := line_cut K hK hKl
  have hll : ((s.drop a).take (k + 1)).length = k + 1 := by simp; omega
  have hdk : (s.drop a).drop (k + 1) = s.drop K := by rw [List.drop_drop, hK, Nat.add_assoc]
  rw [hdk] at hone
  have hKp : ((K : Int) == 0) = false := beq_eq_false_iff_ne.2 (by omega)
  have hb42 := byte_is hal 42 42 (by decide)
  rw [decide_eq_true (by rw [head_drop hal] at h42; exact Option.some.inj h42)] at hb42
  have hb42' : ((((⟨s.toArray⟩ : ByteArray)[a]'(by simpa [ByteArray.size] using hal)).toNat : Int) != 42) = false := by simp [bne, hb42]
  obtain ⟨L, hL⟩ : ∃ L, L = (s.drop a).take (k + 1) := ⟨_, rfl⟩
  rw [← hL] at hsl hone hll
  have HNm := hid fun W => rnumber_any L 32 W (by omega) (by decide)
  have haz : (a : Int) < (s.length : Int) := by omega
  clear hdk h1 h42 hL hK hdl
  cases hn : num L 32 with
  | none =>
    rw [refNum_none hn] at HNm
    rw [hn] at hone
    have HT : Hid (∀ B W, OneTold B W s a (.agg #[.slice none 0 0, .int .i64 0, .int .i64 30])) := fun B W => oneTold_stop (e := 30) hone rfl
    clear hone hn
    go_enter Tryd.func19, Tryd.ntmps19
    go_wp2_with fail
    refine (HL.out _).mono ?_; rintro e w1 ⟨rfl, rfl⟩
    go_wp2_with fail
    refine (HNm.out _).mono ?_; rintro e w1 ⟨rfl, rfl⟩
    go_wp2
    refine bodyPost_ret (v := .agg #[.slice none 0 0, .int .i64 0, .int .i64 30]) ?_ rfl ?_
    · exact ret_got rfl rfl (heap_alloc_new w _)
    · exact ⟨_, rfl, HT.out _ _, below_alloc w _⟩
  | some n =>
    rw [refNum_some hn] at HNm
    rw [hn] at hone
    have hn32 := num_le hn
    have HOne := hid hone
    have hnn : ¬ ((n : Int) < 0) := by omega
    clear hone hn
    go_enter Tryd.func19, Tryd.ntmps19
    go_wp2_with fail
    refine (HL.out _).mono ?_; rintro e w1 ⟨rfl, rfl⟩
    go_wp2_with fail
    refine (HNm.out _).mono ?_; rintro e w1 ⟨rfl, rfl⟩
    have HR0 : Hid (((w.alloc (.cells #[.slice none 0 0, .int .i64 0, .int .i64 0] 47)).alloc (.cells #[.slice none 0 0, .int .i64 K, .int .i64 0] 47)).heap[w.heap.size]? = some (.cells #[.slice none 0 0, .int .i64 0, .int .i64 0] 47 (0, 0))) := (heap_alloc_old _ _ (by simp)).trans (heap_alloc_new w _)
    have HG0 : Hid (((w.alloc (.cells #[.slice none 0 0, .int .i64 0, .int .i64 0] 47)).alloc (.cells #[.slice none 0 0, .int .i64 K, .int .i64 0] 47)).heap[w.heap.size + 1]? = some (.cells #[.slice none 0 0, .int .i64 K, .int .i64 0] 47 (0, 0))) := second_alloc w _ _
    have HB0 : Hid (Below w.heap.size w ((w.alloc (.cells #[.slice none 0 0, .int .i64 0, .int .i64 0] 47)).alloc (.cells #[.slice none 0 0, .int .i64 K, .int .i64 0] 47))) := (below_alloc w _).alloc (by simp) _
    go_wp2
    obtain ⟨gB, hgB⟩ : ∃ gB, gB = w.heap.size + 1 := ⟨_, rfl⟩
    rw [← hgB] at HG0
    rw [← hgB]
    have HgB := hid hgB
    clear hgB HL HNm
    go_loopw [10, 11] (fun v10 _ W => ∃ (i at_ : Nat) (acc : List (List UInt8)) (va : Value), v10 = .int .i64 i ∧ i ≤ n ∧ acc.length = i ∧ at_ ≤ s.length ∧ Hid (one (s.drop a) = bulks (n - i) acc (s.drop at_)) ∧ Hid (W.heap[gB]? = some (.cells #[va, .int .i64 at_, .int .i64 0] 47 (0, 0))) ∧ Hid (W.ownsRow w.heap.size 9 1 va acc.length (acc.map strV)) ∧ Hid (Below w.heap.size w W) ∧ Hid (W.heap[w.heap.size]? = some (.cells #[.slice none 0 0, .int .i64 0, .int .i64 0] 47 (0, 0)))) (fun v10 _ _ => n - (intOf v10).toNat)
    case atStart => exact ⟨0, K, [], .slice none 0 0, rfl, Nat.zero_le _, rfl, hKl, HOne.out, HG0.out, ⟨rfl, .inl ⟨rfl, rfl⟩⟩, HB0.out, HR0.out⟩
    case round =>
      obtain ⟨i, at_, acc, va, rfl, hi, hacc, hat, HO, HG, HA, HB, HR⟩ := hrel
      obtain ⟨pa, ca, rfl⟩ := own_shape HA.out
      have c0 := cell_of_row wr gB 0 _ _ _ HG.out
      have c1 := cell_of_row wr gB 1 _ _ _ HG.out
      have c2 := cell_of_row wr gB 2 _ _ _ HG.out
      simp only [List.getElem?_toArray, List.getElem?_cons_zero, List.getElem?_cons_succ] at c0 c1 c2
      by_cases hin : i < n
      · have hiz : (i : Int) < (n : Int) := by omega
        have HBk := hid (rbulk_any s at_ wr hat hl)
        obtain ⟨m, hm⟩ : ∃ m, n - i = m + 1 := ⟨n - i - 1, by omega⟩
        have HBad := hid fun x (h : bulk (s.drop at_) = .stop x) => HO.out.trans (bulks_stop hm h)
        have HGood := hid fun l r (h : bulk (s.drop at_) = .got l r) => HO.out.trans (bulks_got hm h)
        have hmi : m = n - (i + 1) := by omega
        have HMi := hid hmi
        clear hm hmi
        go_wp2_with fail
        refine HBk.out.mono ?_; rintro e w1 ⟨v, rfl, hh⟩
        obtain ⟨ht, hb1⟩ := hh.out
        have hgl : gB < wr.heap.size := (Array.getElem?_eq_some_iff.1 HG.out).1
        have hrl : w.heap.size < wr.heap.size := (Array.getElem?_eq_some_iff.1 HR.out).1
        have hG1 := (hb1.block gB hgl).trans HG.out
        have hR1 := (hb1.block w.heap.size hrl).trans HR.out
        have hB1 := HB.out.trans (hb1.mono HB.out.size)
        have hA1 := owns_below HA.out hb1
        clear c0 c1 c2
        unfold BulkTold at ht
        cases hbk : bulk (s.drop at_) with
        | stop x =>
          rw [hbk] at ht
          simp only at ht
          subst ht
          have HT : Hid (∀ B W, OneTold B W s a (.agg #[.slice none 0 0, .int .i64 0, .int .i64 (errOf x)])) := fun B W => oneTold_stop (HBad.out x hbk) rfl
          have hG2 := (heap_alloc_old w1 (.cells #[.slice none 0 0, .int .i64 0, .int .i64 (errOf x)] 47) (Nat.lt_of_lt_of_le hrl hb1.size)).trans hR1
          have HR2 := hid hG2
          have HB2 := hid (hB1.alloc hB1.size (.cells #[.slice none 0 0, .int .i64 0, .int .i64 (errOf x)] 47))
          generalize errOf x = E at HT HR2 HB2 ⊢
          clear hG2 hh hb1 hG1 hR1 hB1 hA1 HBk HBad HGood hbk HO HG HA HB HR
          by_cases hE : E = 0
          · subst hE
            go_wp2_with (refine wpList_store_row rfl 47 _ _ rfl w.heap.size #[.slice none 0 0, .int .i64 0, .int .i64 0] rfl rfl 47 _ HR2.out (infoGot _ _ _) rfl (oneG _ _ _ _ _) ?_)
            refine bodyPost_ret (v := .agg #[.slice none 0 0, .int .i64 0, .int .i64 0]) ?_ rfl ?_
            · exact ret_got rfl rfl (got_done _ _ _ HR2.out HB2.out).1
            · exact ⟨_, rfl, HT.out _ _, (got_done _ _ _ HR2.out HB2.out).2⟩
          · have hE2 : (E != 0) = true := by simp [bne, hE]
            have hE3 : (E == 0) = false := beq_eq_false_iff_ne.2 hE
            go_wp2_with (refine wpList_store_row rfl 47 _ _ rfl w.heap.size #[.slice none 0 0, .int .i64 0, .int .i64 E] rfl rfl 47 _ HR2.out (infoGot _ _ _) rfl (oneG _ _ _ _ _) ?_)
            refine bodyPost_ret (v := .agg #[.slice none 0 0, .int .i64 0, .int .i64 E]) ?_ rfl ?_
            · exact ret_got rfl rfl (got_done _ _ _ HR2.out HB2.out).1
            · exact ⟨_, rfl, HT.out _ _, (got_done _ _ _ HR2.out HB2.out).2⟩
        | got l r =>
          rw [hbk] at ht
          simp only at ht
          obtain ⟨A, x, rfl, rfl, hAB, hAx⟩ := ht
          have hone2 := HGood.out _ _ hbk
          rw [HMi.out] at hone2
          have hrs : r <:+ s := (bulk_suffix hbk).trans (List.drop_suffix _ _)
          have hrl2 := (bulk_rest hbk).1
          obtain ⟨AT, hAT⟩ : ∃ AT, AT = s.length - r.length := ⟨_, rfl⟩
          rw [← hAT]
          have hATp : ((AT : Int) == 0) = false := beq_eq_false_iff_ne.2 (by simp at hrl2; omega)
          have hATl : AT ≤ s.length := by omega
          rw [show r = s.drop AT by rw [hAT]; exact (suffix_drop hrs).symm] at hone2
          obtain ⟨acc2, hacc2⟩ : ∃ acc2, acc2 = acc ++ [x] := ⟨_, rfl⟩
          rw [← hacc2] at hone2
          have hacl : acc2.length = i + 1 := by rw [hacc2]; simp [hacc]
          have hba := below_alloc w1 (.cells #[.slice (some ⟨A, 0, none⟩) 1 1, .int .i64 (AT : Int), .int .i64 0] 47)
          have hG2 := (hba.block gB (Nat.lt_of_lt_of_le hgl hb1.size)).trans hG1
          have hR2 := (hba.block w.heap.size (Nat.lt_of_lt_of_le hrl hb1.size)).trans hR1
          have hB2 := hB1.trans (hba.mono hB1.size)
          have hA2 := owns_below hA1 hba
          have hAx2 := (hba.block A (Array.getElem?_eq_some_iff.1 hAx).1).trans hAx
          have hX2 := heap_alloc_new w1 (.cells #[.slice (some ⟨A, 0, none⟩) 1 1, .int .i64 (AT : Int), .int .i64 0] 47)
          have hgx : ¬ gB = w1.heap.size := by have := hb1.size; omega
          have hrx : ¬ w.heap.size = gB := by have := HgB.out; omega
          obtain ⟨v', w3, hrun, ho3, hb3, hst3⟩ := push_text hA2 hAx2 hB2.size (by omega)
          rw [← hacc2] at ho3
          obtain ⟨p3, c3, rfl⟩ := own_shape ho3
          have hG3 := hst3 _ _ _ hG2
          have hR3 := hst3 _ _ _ hR2
          have hX3 := hst3 _ _ _ hX2
          have d0 := cell_of_row _ gB 0 _ _ _ hG2
          have e0 := cell_of_row _ gB 0 _ _ _ hG3
          have e1 := cell_of_row _ gB 1 _ _ _ hG3
          have f0 := frozen_of_row _ gB 0 _ _ hG3
          have f1 := frozen_of_row _ gB 1 _ _ hG3
          have x1 := cell_of_row _ w1.heap.size 1 _ _ _ hX3
          have hG4 := heap_setCell_same w3 gB 0 _ _ (.slice p3 acc2.length c3) hG3
          have hX4 := (heap_setCell_other w3 ⟨gB, 0, none⟩ w1.heap.size (.slice p3 acc2.length c3) (fun e => hgx (by simpa using e.symm))).trans hX3
          have hR4 := (heap_setCell_other w3 ⟨gB, 0, none⟩ w.heap.size (.slice p3 acc2.length c3) (fun e => hrx (by simpa using e))).trans hR3
          have hG5 := heap_setCell_same (w3.setCell ⟨gB, 0, none⟩ (.slice p3 acc2.length c3)) gB 1 _ _ (.int .i64 (AT : Int)) hG4
          have hR5 := (heap_setCell_other (w3.setCell ⟨gB, 0, none⟩ (.slice p3 acc2.length c3)) ⟨gB, 1, none⟩ w.heap.size (.int .i64 (AT : Int)) (fun e => hrx (by simpa using e))).trans hR4
          have hO5 := owns_setCell (k := 1) (u := .int .i64 (AT : Int)) (owns_setCell (k := 0) (u := .slice p3 acc2.length c3) ho3 hG3 (by decide)) hG4 (by decide)
          have hB5 := ((hB2.trans hb3).setCell (p := ⟨gB, 0, none⟩) (by simp; have := HgB.out; omega) (.slice p3 acc2.length c3)).setCell (p := ⟨gB, 1, none⟩) (by simp; have := HgB.out; omega) (.int .i64 (AT : Int))
          simp only [List.getElem?_toArray, List.getElem?_cons_zero, List.getElem?_cons_succ] at d0 e0 e1 x1
          have HRun := hid hrun
          have HOne2 := hid hone2
          have HG5 := hid hG5
          have HR5 := hid hR5
          have HO5 := hid hO5
          have HB5 := hid hB5
          have hgx2 : ¬ w1.heap.size = gB := fun e => hgx e.symm
          have HAcl := hid hacl
          clear hrun hone2 hG5 hR5 hO5 hB5 hG4 hX4 hR4 hG3 hR3 hX3 ho3 hb3 hst3 hX2 hAx2 hA2 hB2 hR2 hG2 hba hh hb1 hG1 hR1 hB1 hA1 HBk HBad HGood hbk HO HG HA HB HR hAx hAB hrs hrl2 hAT hacc2 hgl hrl hacc hacl
          go_wp2_with (at_builtin; refine wpList_append_runs rfl _ _ 36 36 rfl _ _ _ _ rfl rfl HRun.out ?_)
          exact ⟨⟨i + 1, AT, acc2, _, by go_num, by omega, HAcl.out, hATl, HOne2.out, HG5.out, HO5.out, HB5.out, HR5.out⟩, by simp [intOf]; omega⟩
      · have hiz : ¬ ((i : Int) < (n : Int)) := by omega
        have hg : one (s.drop a) = .got acc (s.drop at_) := by rw [HO.out, show n - i = 0 by omega]; rfl
        have hsd : s.length - (s.drop at_).length = at_ := by simp; omega
        have HT : Hid (∀ B W, W.ownsRow B 9 1 (.slice pa acc.length ca) acc.length (acc.map strV) → OneTold B W s a (.agg #[.slice pa acc.length ca, .int .i64 (at_ : Int), .int .i64 0])) := fun B W h => by
          unfold OneTold
          rw [hg]
          exact ⟨pa, ca, by rw [hsd], h⟩
        clear hg hsd HO hacc
        go_wp2_with (refine wpList_store_row rfl 47 _ _ rfl w.heap.size #[.slice pa acc.length ca, .int .i64 (at_ : Int), .int .i64 0] rfl rfl 47 _ HR.out (infoGot _ _ _) rfl (oneG _ _ _ _ _) ?_)
        refine bodyPost_ret (v := .agg #[.slice pa acc.length ca, .int .i64 (at_ : Int), .int .i64 0]) ?_ rfl ?_
        · exact ret_got rfl rfl (got_done _ _ _ HR.out HB.out).1
        · exact ⟨_, rfl, HT.out _ _ (owns_setRow HA.out HR.out (by decide)), (got_done _ _ _ HR.out HB.out).2⟩
/-- ref One -/
theorem rone_any (s : List UInt8) (a : Nat) (w : World) (ha : a ≤ s.length) (hl : s.length ≤ 140737488300000) :
    Calls Tryd.prog 19 #[.string ⟨s.toArray⟩, .int .i64 a] w fun e w' => ∃ v, e = .returned v ∧ Hid (OneTold w.heap.size w' s a v ∧ Below w.heap.size w w') := by
  cases h1 : lineAt (s.drop a) with
  | none => exact rone_none s a w ha hl h1
  | some k =>
    by_cases h42 : (s.drop a).head? = some 42
    · exact rone_star s a k w hl h1 h42
    · exact rone_words s a k w hl h1 h42

end Go.Proofs.YtjcegiponjpjiaaDoor
