/- The numbers behind a word, by the document: ref17's numbers. -/
import Derived.Test.YtpmpndfinghlkaaDoorRtWhole
import Derived.Test.YtpmpndfinghlkaaDoorRtSplit
import Derived.Laws.OwnMore
namespace Go.Proofs.YtpmpndfinghlkaaDoor
open Go.RowKit

theorem infoI : (Tryd.prog.info? 3).map (fun i => (i.zero, i.size, i.bytes)) = some (some (.int .i64 0), 1, 8) := by kernel_rfl
def intV (x : Int) : Value := .int .i64 x
/-- a row of numbers under way, of the call's own -/
structure Nw (w W : World) (v : Value) (L : List Int) : Prop where
  own : W.ownsRow w.heap.size 3 1 v L.length (L.map intV)
  bel : Below w.heap.size w W
theorem Nw.shape {w W : World} {v : Value} {L : List Int} (h : Nw w W v L) : ∃ a c, v = .slice a L.length c := by
  rcases h.own.2 with ⟨rfl, h0⟩ | ⟨g, cap, cur, rfl, _⟩
  · exact ⟨none, 0, by rw [h0]⟩
  · exact ⟨_, _, rfl⟩
theorem Nw.cells {w W : World} {a : Option Addr} {L : List Int} {n c : Nat} (h : Nw w W (.slice a n c) L) : IntsR W a L := fun hne => by
  rcases h.own.2 with ⟨e, h0⟩ | ⟨g, cap, cur, e, h1, h2, h3⟩
  · exact absurd (List.length_eq_zero_iff.1 (by simpa using h0)) hne
  · injection e with e1 _ _
    subst e1
    exact ⟨g, 0, rfl, (Array.getElem?_eq_some_iff.1 h2).1, fun j hj => by
      have := World.ownsRow.cells h.own (g := g) rfl j (intV L[j]) (by simp [hj])
      rw [Go.WideShapes.add_plain] at this
      simpa [intV] using this⟩
theorem Nw.base {w W : World} {a : Option Addr} {L : List Int} {n c : Nat} (h : Nw w W (.slice a n c) L) : ∀ b o, a = some ⟨b, o, none⟩ → w.heap.size ≤ b := fun b o ea => by
  rcases h.own.2 with ⟨e, h0⟩ | ⟨g, cap, cur, e, h1, h2, h3⟩
  · injection e with e1 _ _
    rw [e1] at ea; cases ea
  · injection e with e1 _ _
    rw [e1] at ea
    injection ea with ea
    injection ea with ea _ _
    omega
theorem Nw.go {w W W' : World} {v : Value} {L : List Int} (h : Nw w W v L) (hb : Below W.heap.size W W') : Nw w W' v L := ⟨owns_below h.own hb, h.bel.trans (hb.mono h.bel.size)⟩
theorem Nw.push {w W : World} {v : Value} {L : List Int} (h : Nw w W v L) (x : Int) (hT : L.length ≤ 100000000) :
    ∃ v' W', (Builtin.append_ #[22, 22] 22 #[v, .slice (some ⟨W.heap.size, 0, none⟩) 1 1]).run Tryd.prog (W.alloc (.cells #[.int .i64 x] 3)) = .ok v' W' ∧ Nw w W' v' (L ++ [x]) := by
  obtain ⟨i0, hi, hz0, hz1, hz2⟩ := info_parts infoI
  have hs := h.bel.size
  have hown' := owns_below h.own (below_alloc W (.cells #[.int .i64 x] 3))
  obtain ⟨v', w', hrun, ho, hgr, _⟩ := run_append_own (P := Tryd.prog) (W.alloc (.cells #[.int .i64 x] 3)) w.heap.size 22 22 3 i0 (.int .i64 0) 1 8 Tryd.underlying22 hi hz0 hz1 hz2 rfl (by decide) _ _ _ hown' ⟨W.heap.size, 0, none⟩ 1 1 [.int .i64 x] rfl
    (fun j u hj => by
      rw [Go.WideShapes.add_plain, cell_of_row _ _ _ _ _ _ (heap_alloc_new W _)]
      simpa using hj)
    (fun u hu => by rw [List.mem_singleton.1 hu]; rfl) (by unfold maxLen; simp; omega) (by omega) (by simp; omega)
  refine ⟨v', w', hrun, ⟨?_, ?_⟩⟩
  · rw [List.map_append, List.length_append]
    exact ho
  · exact (h.bel.alloc hs _).grown hgr (by simp; omega) (fun k hk => (World.ownsRow.lt h.own k hk).1)
theorem numsV_cons (p : List UInt8) (t : List (List UInt8)) : numsV (p :: t) = match numO p 9223372036854775807 with
    | none => none
    | some v => (numsV t).map (v :: ·) := by
  show (match numO p 9223372036854775807 with | none => none | some v => match numsV t with | none => none | some L => some (v :: L)) = _
  cases numO p 9223372036854775807 with
  | none => rfl
  | some v => cases numsV t <;> rfl
/-- what numbers tells -/
def NumP (l W : List UInt8) (w : World) (e : Ending) (w' : World) : Prop :=
  ((∃ r L a c, l = W ++ 32 :: r ∧ numsV (pcs r) = some L ∧ e = .returned (.tuple #[.slice a L.length c, .bool true]) ∧ IntsR w' a L ∧ ∀ b o, a = some ⟨b, o, none⟩ → w.heap.size ≤ b) ∨
   (e = .returned (.tuple #[.slice none 0 0, .bool false]) ∧ ∀ r, l = W ++ 32 :: r → numsV (pcs r) = none)) ∧ Below w.heap.size w w'
set_option maxHeartbeats 4000000 in
set_option maxRecDepth 100000 in
theorem numbers_loop (l W : List UInt8) (n : Nat) (w : World) (hn : W.length = n) (hn10 : n ≤ 10) (hl : l.length ≤ 10000000) (hW : n < l.length) (h1 : l.take n = W) (h2 : l[n] = 32) :
    Calls Tryd.prog 22 #[.string ⟨l.toArray⟩, .string ⟨W.toArray⟩] w (NumP l W w) := by
  obtain ⟨r, hr⟩ : ∃ r, l.drop (n + 1) = r := ⟨_, rfl⟩
  have hlr : l = W ++ 32 :: r := by
    have e := List.take_append_drop n l
    rw [h1, List.drop_eq_getElem_cons hW, h2, hr] at e
    exact e.symm
  have HFin : Hid (∀ r', l = W ++ 32 :: r' → r' = r) := fun r' h => by rw [hlr] at h; simpa using h.symm
  have HLR := hid hlr
  have hnz : (n : Int) < (l.length : Int) := by omega
  have hlz : (l.length : Int) ≤ 10000000 := by omega
  have t0 := fun V => str_to l n V (by omega)
  rw [h1] at t0
  have hWe : (W == W) = true := by simp
  have b0 : ((((⟨l.toArray⟩ : ByteArray)[n]'(by simpa [ByteArray.size] using hW)).toNat : Nat) : Int) = 32 := by
    have e : ((⟨l.toArray⟩ : ByteArray)[n]'(by simpa [ByteArray.size] using hW)) = l[n] := rfl
    rw [e, h2]; rfl
  have hnle : ¬ l.length ≤ n := by omega
  have hwl : (W.length : Int) = (n : Int) := by omega
  have hn10z : (n : Int) ≤ 10 := by omega
  have HR : Hid (l.drop (n + 1) = r) := hr
  clear hlr hr h1 h2
  go_enter Tryd.func22, Tryd.ntmps22
  go_wp2_with fail
  go_loopw [7, 8, 9, 10, 11] (fun v7 v8 v9 _ _ V => ∃ (f k : Nat) (L : List Int), v9 = .int .i64 (k : Int) ∧ v8 = .int .i64 (f : Int) ∧ n + 1 ≤ k ∧ k ≤ l.length + 1 ∧ f ≤ k ∧ L.length ≤ k ∧ Hid (Nw w V v7 L) ∧
      Hid ((k ≤ l.length → numsV (pcs r) = (numsV (pcs (l.drop f))).map (L ++ ·) ∧ 32 ∉ (l.drop f).take (k - f)) ∧ (k = l.length + 1 → numsV (pcs r) = some L))) (fun _ _ v9 _ _ _ => l.length + 1 - (intOf v9).toNat)
  case atStart => exact ⟨n + 1, n + 1, [], by go_num, by go_num, Nat.le_refl _, by omega, Nat.le_refl _, by simp, ⟨World.ownsRow_nil _ _ _ _, Below.refl _ _⟩, fun _ => ⟨by rw [HR.out]; cases numsV (pcs r) <;> rfl, by simp⟩, fun h => by omega⟩
  case round =>
    obtain ⟨f, k, L, rfl, rfl, hk0, hk1, hfk, hLk, HN, HQ⟩ := hrel
    by_cases hle : k ≤ l.length
    · have hlez : (k : Int) ≤ (l.length : Int) := by omega
      have hfz : (f : Int) ≤ (k : Int) := by omega
      obtain ⟨hq1, hq2⟩ := HQ.out.1 hle
      have t1 := fun V => str_mid l f k V hfk hle
      obtain ⟨p, hp⟩ : ∃ p, (l.drop f).take (k - f) = p := ⟨_, rfl⟩
      rw [hp] at hq2 t1
      by_cases hsep : k = l.length ∨ ∃ h : k < l.length, l[k] = 32
      · have HP : Hid (∃ t, pcs (l.drop f) = p :: t ∧ (k = l.length → t = []) ∧ (k < l.length → t = pcs (l.drop (k + 1)))) := by
          rcases hsep with e | ⟨h, e⟩
          · have hpe : p = l.drop f := by rw [← hp, List.take_of_length_le (by simp; omega)]
            exact ⟨[], by rw [← hpe]; exact pcs_none p hq2, fun _ => rfl, fun h => by omega⟩
          · have hd : l.drop f = p ++ 32 :: l.drop (k + 1) := by
              rw [← hp, ← e, ← List.drop_eq_getElem_cons h, show l.drop k = (l.drop f).drop (k - f) by rw [List.drop_drop]; congr 1; omega, List.take_append_drop]
            exact ⟨_, by rw [hd]; exact pcs_cut p _ hq2, fun h => by omega, fun _ => rfl⟩
        have hpl : p.length ≤ 140737488351232 := by rw [← hp]; simp; omega
        have HW := hid (rWhole_any p wr hpl)
        have HQ1 := hid hq1
        have HS := hid hsep
        have H32 : Hid ((k < l.length → l[k]! = 32) ∧ k ≤ l.length) := ⟨fun h => by
          rcases hsep with e | ⟨h', e⟩
          · omega
          · rw [getElem!_pos l k h]; exact e, hle⟩
        have hL6 : L.length ≤ 100000000 := by omega
        clear hp hq1 hq2 HQ
        rcases hsep with e | ⟨h, e⟩
        · have hke : ((k : Int) == (l.length : Int)) = true := by rw [e]; exact beq_self_eq_true _
          clear e
          go_upto_region 10 with fail
          clear hke
          go_wp2_with fail
          refine HW.out.mono ?_; rintro e w2 ⟨⟨v, b, rfl, hv0, hv1, hv⟩, hb2⟩
          have HN2 := hid (HN.out.go hb2)
          clear hb2 HW
          by_cases hvb : b = true ∧ 0 ≤ v
          · obtain ⟨rfl, h0⟩ := hvb
            rw [if_pos ⟨rfl, h0⟩] at hv
            obtain ⟨v', w3, hrun, hN3⟩ := HN2.out.push v hL6
            have HN3 := hid hN3
            have HQ2 : Hid ((k + 1 ≤ l.length → numsV (pcs r) = (numsV (pcs (l.drop (k + 1)))).map ((L ++ [v]) ++ ·) ∧ 32 ∉ (l.drop (k + 1)).take (k + 1 - (k + 1))) ∧ (k + 1 = l.length + 1 → numsV (pcs r) = some (L ++ [v]))) := by
              obtain ⟨t, ht, hte, htn⟩ := HP.out
              have e := HQ1.out
              rw [ht, numsV_cons, hv] at e
              refine ⟨fun h => ⟨?_, by simp⟩, fun h => ?_⟩
              · rw [e, ← htn (by omega)]
                cases numsV t <;> simp
              · rw [e, hte (by omega)]
                simp [numsV]
            obtain ⟨aL, cL, rfl⟩ := HN2.out.shape
            clear hv hN3 HQ1 HP HS
            go_wp2_with (refine wpList_append_runs (by rfl) _ _ _ _ rfl _ _ _ _ rfl rfl hrun ?_)
            exact ⟨⟨k + 1, k + 1, L ++ [v], by go_num, by go_num, by omega, by omega, Nat.le_refl _, by simp; omega, HN3.out, HQ2.out⟩, by simp [intOf]; omega⟩
          · have HV : Hid (∀ r', l = W ++ 32 :: r' → numsV (pcs r') = none) := fun r' h => by
              obtain ⟨t, ht, -, -⟩ := HP.out
              rw [if_neg hvb] at hv
              rw [HFin.out r' h, HQ1.out, ht, numsV_cons, hv]
              rfl
            have hvb2 : b = false ∨ v < 0 := by
              cases b
              · exact .inl rfl
              · exact .inr (by
                by_cases h : 0 ≤ v
                · exact absurd ⟨rfl, h⟩ hvb
                · omega)
            clear hv hvb HQ1 HP HS
            rcases hvb2 with rfl | hneg
            · go_wp2
              go_ret2
              exact ⟨.inr ⟨rfl, HV.out⟩, HN2.out.bel⟩
            · cases b
              · go_wp2
                go_ret2
                exact ⟨.inr ⟨rfl, HV.out⟩, HN2.out.bel⟩
              · go_wp2
                go_ret2
                exact ⟨.inr ⟨rfl, HV.out⟩, HN2.out.bel⟩
        · have hke : ((k : Int) == (l.length : Int)) = false := beq_eq_false_iff_ne.2 (by omega)
          have hklz : (k : Int) < (l.length : Int) := by omega
          have bk := byte_is h 32 32 rfl
          rw [decide_eq_true e] at bk
          clear e
          go_upto_region 10 with fail
          go_wp2_with fail
          refine HW.out.mono ?_; rintro e w2 ⟨⟨v, b, rfl, hv0, hv1, hv⟩, hb2⟩
          have HN2 := hid (HN.out.go hb2)
          clear hb2 HW
          by_cases hvb : b = true ∧ 0 ≤ v
          · obtain ⟨rfl, h0⟩ := hvb
            rw [if_pos ⟨rfl, h0⟩] at hv
            obtain ⟨v', w3, hrun, hN3⟩ := HN2.out.push v hL6
            have HN3 := hid hN3
            have HQ2 : Hid ((k + 1 ≤ l.length → numsV (pcs r) = (numsV (pcs (l.drop (k + 1)))).map ((L ++ [v]) ++ ·) ∧ 32 ∉ (l.drop (k + 1)).take (k + 1 - (k + 1))) ∧ (k + 1 = l.length + 1 → numsV (pcs r) = some (L ++ [v]))) := by
              obtain ⟨t, ht, hte, htn⟩ := HP.out
              have e := HQ1.out
              rw [ht, numsV_cons, hv] at e
              refine ⟨fun h => ⟨?_, by simp⟩, fun h => ?_⟩
              · rw [e, ← htn (by omega)]
                cases numsV t <;> simp
              · rw [e, hte (by omega)]
                simp [numsV]
            obtain ⟨aL, cL, rfl⟩ := HN2.out.shape
            clear hv hN3 HQ1 HP HS
            go_wp2_with (refine wpList_append_runs (by rfl) _ _ _ _ rfl _ _ _ _ rfl rfl hrun ?_)
            exact ⟨⟨k + 1, k + 1, L ++ [v], by go_num, by go_num, by omega, by omega, Nat.le_refl _, by simp; omega, HN3.out, HQ2.out⟩, by simp [intOf]; omega⟩
          · have HV : Hid (∀ r', l = W ++ 32 :: r' → numsV (pcs r') = none) := fun r' h => by
              obtain ⟨t, ht, -, -⟩ := HP.out
              rw [if_neg hvb] at hv
              rw [HFin.out r' h, HQ1.out, ht, numsV_cons, hv]
              rfl
            have hvb2 : b = false ∨ v < 0 := by
              cases b
              · exact .inl rfl
              · exact .inr (by
                by_cases h : 0 ≤ v
                · exact absurd ⟨rfl, h⟩ hvb
                · omega)
            clear hv hvb HQ1 HP HS
            rcases hvb2 with rfl | hneg
            · go_wp2
              go_ret2
              exact ⟨.inr ⟨rfl, HV.out⟩, HN2.out.bel⟩
            · cases b
              · go_wp2
                go_ret2
                exact ⟨.inr ⟨rfl, HV.out⟩, HN2.out.bel⟩
              · go_wp2
                go_ret2
                exact ⟨.inr ⟨rfl, HV.out⟩, HN2.out.bel⟩
      · have hkl : k < l.length := by
          by_cases e : k = l.length
          · exact absurd (.inl e) hsep
          · omega
        have hb : l[k] ≠ 32 := fun e => hsep (.inr ⟨hkl, e⟩)
        have hke : ((k : Int) == (l.length : Int)) = false := beq_eq_false_iff_ne.2 (by omega)
        have hklz : (k : Int) < (l.length : Int) := by omega
        have bk := byte_is hkl 32 32 rfl
        rw [decide_eq_false hb] at bk
        have HQ1 : Hid ((k + 1 ≤ l.length → numsV (pcs r) = (numsV (pcs (l.drop f))).map (L ++ ·) ∧ 32 ∉ (l.drop f).take (k + 1 - f)) ∧ (k + 1 = l.length + 1 → numsV (pcs r) = some L)) := by
          refine ⟨fun h => ⟨hq1, ?_⟩, fun h => by omega⟩
          rw [show k + 1 - f = k - f + 1 by omega, List.take_succ_eq_append_getElem (by simp; omega), hp]
          intro hm
          rcases List.mem_append.1 hm with hm | hm
          · exact hq2 hm
          · have : l[k] = 32 := by
              have e : (l.drop f)[k - f]'(by simp; omega) = l[k] := by rw [List.getElem_drop]; simp only [show f + (k - f) = k by omega]
              rw [← e]; exact (List.mem_singleton.1 hm).symm
            exact hb this
        clear t1 hp hq1 hq2 hsep hb HQ
        go_wp2
        exact ⟨⟨f, k + 1, L, by go_num, rfl, by omega, by omega, by omega, by omega, HN.out, HQ1.out⟩, by simp [intOf]; omega⟩
    · have hke : k = l.length + 1 := by omega
      have hkz : (l.length : Int) < (k : Int) := by omega
      have HA := hid (HQ.out.2 hke)
      obtain ⟨a, c, rfl⟩ := HN.out.shape
      go_wp2
      go_ret2
      exact ⟨.inl ⟨r, L, a, c, HLR.out, HA.out, rfl, HN.out.cells, HN.out.base⟩, HN.out.bel⟩

end Go.Proofs.YtpmpndfinghlkaaDoor
