/- The program's dict: clone, Clone. -/
import Derived.Test.YtphegggekcjenaaDoorDIHalf
import Derived.Laws.CopyRow
import Derived.Laws.OwnMore
namespace Go.Proofs.YtphegggekcjenaaDoor.DI
open Go.RowKit

theorem run_copy2 {P : Program} (w : World) (dT sT ty elem : TypeId) (g o dLen dCap : Nat) (a : Addr) (sLen sCap : Nat) (cur : Array Value) (t : TypeId) (cs : List Value)
    (hu : P.underlying dT = some (.slice elem)) (hs : (P.info? elem).map (·.size) = some 2)
    (hg : w.heap[g]? = some (.cells cur t (0, 0))) (hn : cs.length = Nat.min sLen dLen * 2)
    (hsrc : ∀ j v, cs[j]? = some v → w.cell? (a.add j) = some v) (hfit : o + cs.length ≤ cur.size) (h1 : ∀ v ∈ cs, v.oneCell' = true) :
    (Builtin.copy_ #[dT, sT] ty #[.slice (some ⟨g, o, none⟩) dLen dCap, .slice (some a) sLen sCap]).run P w =
      .ok (goInt (Nat.min sLen dLen)) (w.setRow g (cur.toList.take o ++ cs ++ cur.toList.drop (o + cs.length)).toArray) := by
  have hl := run_loadCells_list (P := P) w a cs hsrc
  have hst := run_storeCells_at P g o t cs 0 cur w hg (by simpa using hfit) h1
  cases hq : P.info? elem with
  | none => simp [hq] at hs
  | some i =>
    have hi : i.size = 2 := by simpa [hq] using hs
    simp [Builtin.copy_, run_underlying hu, Builtin.lenOf, Builtin.firstCells, sizeOf, typeInfo, hq, hi, ← hn, hl, hst]
theorem sizeP : (Tryd.prog.info? 75).map (·.size) = some 2 := by kernel_rfl
set_option maxRecDepth 100000 in
/-- a room is copied into a block of its size -/
theorem copy_room {w : World} {p : Option Addr} {n c k : Nat} {l : Its Int} (h : Room w (.slice p n c) l) (hn : n = l.length) (Z : Array Value) (hk : w.heap[k]? = some (.cells Z 75 (0, 0))) (hZ : Z.size = l.length * 2) :
    (Builtin.copy_ #[73, 73] 3 #[.slice (some ⟨k, 0, none⟩) n n, .slice p n c]).run Tryd.prog w = .ok (.int .i64 n) (w.setRow k (flat l).toArray) := by
  subst hn
  rcases h.2 with ⟨e, h0⟩ | ⟨g, cap, cur, e, _, hg, hn, hm, hs, ht⟩
  · injection e with e1 e2 e3
    obtain rfl : l = [] := List.eq_nil_of_length_eq_zero h0
    subst e1 e3
    have hz : Z = #[] := Array.eq_empty_of_size_eq_zero (by simpa using hZ)
    rw [hz] at hk
    rw [show (flat []).toArray = #[] from rfl, setRow_self w k #[] _ _ hk]
    exact run_copy_nil (P := Tryd.prog) w 73 73 3 75 ⟨k, 0, none⟩ 0 0 Tryd.underlying73 (by rw [sizeP]; rfl)
  · injection e with e1 e2 e3
    subst e1
    have := run_copy2 (P := Tryd.prog) w 73 73 3 75 k 0 l.length l.length ⟨g, 0, none⟩ l.length c Z 75 (flat l) Tryd.underlying73 sizeP hk (by rw [flat_len]; show _ = min _ _ * 2; rw [Nat.min_self]) (World.ownsRow.cells h (g := g) rfl) (by rw [flat_len, hZ]; omega) (flat_one l)
    rw [this]
    have e : Nat.min l.length l.length = l.length := Nat.min_self _
    rw [e, List.take_zero, List.nil_append, flat_len, Nat.zero_add, List.drop_of_length_le (by simp; omega), List.append_nil]
    rfl
theorem made_flat (n : Nat) : (madeCells (Value.agg #[.string ⟨#[]⟩, .int .i64 0]).cells (n * 2)).toList = flat (List.replicate n ([], 0)) := by
  apply List.ext_getElem?
  intro j
  by_cases hj : j < n * 2
  · have hz : (Value.agg #[.string ⟨#[]⟩, .int .i64 0]).cells = #[.string ⟨#[]⟩, .int .i64 0] := rfl
    have hq : j / 2 < (List.replicate n (([], 0) : Nm × Int)).length := by simp; omega
    obtain ⟨f1, f2⟩ := flat_get (List.replicate n ([], 0)) (j / 2) hq
    simp only [List.getElem_replicate] at f1 f2
    rw [hz, madeCells]
    rcases (show j = j / 2 * 2 ∨ j = j / 2 * 2 + 1 by omega) with e | e
    · rw [← e] at f1
      rw [f1]
      simp [hj, show j % 2 = 0 by omega]
    · rw [← e] at f2
      rw [f2]
      simp [hj, show j % 2 = 1 by omega]
  · rw [List.getElem?_eq_none (by simp [madeCells]; omega), List.getElem?_eq_none (by rw [flat_len]; simp; omega)]
/-- a room of zero values is made -/
theorem make_room (n : Nat) (hn : n ≤ 1000000) (w : World) : ∃ Z : Array Value, (Instr.makeSlice 73 (.int .i64 n) (.int .i64 n)).run Tryd.prog w = .ok (.slice (some ⟨w.heap.size, 0, none⟩) n n) (w.alloc (.cells Z 75)) ∧ Z.size = n * 2 ∧ Room (w.alloc (.cells Z 75)) (.slice (some ⟨w.heap.size, 0, none⟩) n n) (List.replicate n ([], 0)) := by
  obtain ⟨i0, hi, hz0, hz1, hz2⟩ := info_parts infoP
  have h := run_make (P := Tryd.prog) w 73 75 i0 (.agg #[.string ⟨#[]⟩, .int .i64 0]) Tryd.underlying73 hi hz0 .i64 .i64 (n : Int) (n : Int) (by omega) (Int.le_refl _) (by rw [hz2]; omega) (by omega)
  rw [hz1, Int.toNat_natCast] at h
  refine ⟨_, h, size_madeCells _ _, ⟨by rw [flat_len], .inr ⟨w.heap.size, n, _, by simp, Nat.zero_le _, heap_alloc_new w _, by simp, by unfold maxLen; omega, size_madeCells _ _, ?_⟩⟩⟩
  rw [List.length_replicate, made_flat, List.take_of_length_le (by rw [flat_len]; simp)]
theorem part_set {l : Tb Int} {i : Nat} (hi : i < l.length) : (l.take i ++ List.replicate (l.length - i) []).set i l[i] = l.take (i + 1) ++ List.replicate (l.length - (i + 1)) [] := by
  have h1 : (l.take i).length = i := by rw [List.length_take]; omega
  obtain ⟨k, hk⟩ : ∃ k, l.length - i = k + 1 := ⟨l.length - i - 1, by omega⟩
  rw [List.set_append_right _ _ (by omega), h1, Nat.sub_self, hk, List.replicate_succ, List.set_cons_zero, List.take_succ_eq_append_getElem hi, show l.length - (i + 1) = k by omega, List.append_assoc]
  rfl
theorem part_len {l : Tb Int} {i : Nat} (hi : i ≤ l.length) : (l.take i ++ List.replicate (l.length - i) []).length = l.length := by
  rw [List.length_append, List.length_take, List.length_replicate]; omega
/-- a table of new blocks alone -/
structure Fresh (m : Nat) (w : World) (g : Tg) (e : Bool) (cb : Nat) (l : Tb Int) : Prop where
  tab : TabIs w g e cb l
  lt : ∀ k, g k ≠ none → m ≤ k ∧ k < w.heap.size
set_option maxHeartbeats 2000000 in
set_option maxRecDepth 100000 in
theorem clone_nil (w : World) : Calls Tryd.prog 38 #[.slice none 0 0] w fun e w' => e = .returned (.slice none 0 0) ∧ w' = w := by
  have k1 := eq_none
  go_enter Tryd.func38, Tryd.ntmps38
  go_wp2
  go_ret
  exact ⟨rfl, rfl⟩
set_option maxHeartbeats 4000000 in
set_option maxRecDepth 100000 in
theorem clone_tab {w : World} {g : Tg} {e e' : Bool} {nb : Nat} {l : Tb Int} (h : TabIs w g e nb l) (hlt : ∀ k, g k ≠ none → k < w.heap.size) (hl : l.length ≤ 1000000) (hr : ∀ i (h : i < l.length), l[i].length ≤ 1000000) :
    Calls Tryd.prog 38 #[.slice (some ⟨nb, 0, none⟩) l.length l.length] w fun x w' => ∃ cb, x = .returned (.slice (some ⟨cb, 0, none⟩) l.length l.length) ∧ Hid (∃ gC, Fresh w.heap.size w' gC e' cb l ∧ Below w.heap.size w w') := by
  have k1 := eq_some ⟨nb, 0, none⟩ l.length l.length
  have k2 := make_tab l.length l.length rfl hl
  have HT := hid h
  have HR := hid hr
  have HLT := hid hlt
  have hnb : nb < w.heap.size := hlt nb (by obtain ⟨_, _, _, t, _⟩ := h; rw [t]; simp)
  have HNB := hid hnb
  have hlz : (l.length : Int) ≤ 1000000 := by omega
  have HF0 : Hid (∃ gC, Fresh w.heap.size (w.alloc (.cells (List.replicate l.length (.slice none 0 0)).toArray 73)) gC e' w.heap.size (l.take 0 ++ List.replicate (l.length - 0) [])) := by
    refine ⟨fun k => if k = w.heap.size then some (.tab e') else none, ?_, fun k hk => ?_⟩
    · rw [List.take_zero, List.nil_append, Nat.sub_zero]
      exact TabIs.empty _ _ _ _ _ (heap_alloc_new w _) (if_pos rfl)
    · split at hk
      · simp; omega
      · exact absurd rfl hk
  have HB0 := hid (below_alloc w (.cells (List.replicate l.length (.slice none 0 0)).toArray 73))
  generalize (List.replicate l.length (Value.slice none 0 0)).toArray = Z0 at *
  clear h hlt hr
  go_enter Tryd.func38, Tryd.ntmps38
  go_wp2_with fail
  go_loopw [13] (fun v13 W => ∃ i : Nat, v13 = .int .i64 i ∧ i ≤ l.length ∧ Hid (∃ gC, Fresh w.heap.size W gC e' w.heap.size (l.take i ++ List.replicate (l.length - i) [])) ∧ Hid (Below w.heap.size w W)) (fun v13 _ => l.length - (intOf v13).toNat)
  case atStart => exact ⟨0, rfl, Nat.zero_le _, HF0.out, HB0.out⟩
  case round =>
    obtain ⟨i, rfl, hi, HFr, HW⟩ := hrel
    by_cases hil : i < l.length
    · have hiz : (i : Int) < (l.length : Int) := by omega
      obtain ⟨u, hu, -, hru, -⟩ := HT.out.room i hil
      obtain ⟨pu, cu, rfl⟩ := hru.shape
      have x0 := cell_turn hu (HW.out.block nb HNB.out)
      obtain ⟨gC, hFr⟩ := HFr.out
      have hpl := part_len (l := l) (i := i) hi
      obtain ⟨u0, z0, zf, -, -⟩ := hFr.tab.room i (by rw [hpl]; exact hil)
      have hcb : w.heap.size < wr.heap.size := (hFr.lt w.heap.size (by obtain ⟨_, _, _, t, _⟩ := hFr.tab; rw [t]; simp)).2
      have hnl := HR.out i hil
      obtain ⟨Z, hmk, hZs, hRz⟩ := make_room l[i].length hnl wr
      have HEnd : Hid (∃ W3, (Builtin.copy_ #[73, 73] 3 #[.slice (some ⟨wr.heap.size, 0, none⟩) l[i].length l[i].length, .slice pu l[i].length cu]).run Tryd.prog ((wr.setCell ⟨w.heap.size, i, none⟩ (.slice (some ⟨wr.heap.size, 0, none⟩) l[i].length l[i].length)).alloc (.cells Z 75)) = .ok (.int .i64 l[i].length) W3 ∧ (∃ gC, Fresh w.heap.size W3 gC e' w.heap.size (l.take (i + 1) ++ List.replicate (l.length - (i + 1)) [])) ∧ Below w.heap.size w W3) := by
        have hcm : (wr.alloc (.cells Z 75)).setCell ⟨w.heap.size, i, none⟩ (.slice (some ⟨wr.heap.size, 0, none⟩) l[i].length l[i].length) = (wr.setCell ⟨w.heap.size, i, none⟩ (.slice (some ⟨wr.heap.size, 0, none⟩) l[i].length l[i].length)).alloc (.cells Z 75) := World.setCell_alloc_past (w := wr) _ _ _ _ hcb
        have hba := below_alloc wr (.cells Z 75)
        obtain ⟨g2, hT2, hU2⟩ := hFr.tab.stored (w' := wr.alloc (.cells Z 75)) (fun k hk => (hFr.lt k hk).2) i (by rw [hpl]; exact hil) u0 (.slice (some ⟨wr.heap.size, 0, none⟩) l[i].length l[i].length) _ z0 hRz hba.os hba.tape hba.output hba.size (fun k hk _ => hba.block k hk) (fun k hk => .inr (by injection hk with hk; exact Nat.le_of_eq hk))
        rw [hcm] at hT2 hU2
        generalize hW2 : (wr.setCell ⟨w.heap.size, i, none⟩ (.slice (some ⟨wr.heap.size, 0, none⟩) l[i].length l[i].length)).alloc (.cells Z 75) = W2 at *
        have hB2 : Below w.heap.size w W2 := by
          rw [← hcm]
          exact (HW.out.trans (hba.mono HW.out.size)).setCell (Nat.le_refl _) _
        have hk2 : W2.heap[wr.heap.size]? = some (.cells Z 75 (0, 0)) := by
          rw [← hcm, heap_setCell_other _ _ _ _ (by simp; omega), heap_alloc_new]
        have hR2 : Room W2 (.slice pu l[i].length cu) l[i] := hru.turn (fun k hk => hB2.block k (hru.lt hk))
        have hcp := copy_room hR2 rfl Z hk2 hZs
        refine ⟨_, hcp, ?_, hB2.trans ⟨rfl, rfl, rfl, by simp, fun k hk => setRow_other _ _ _ _ (by omega)⟩⟩
        have hsz : (W2.setRow wr.heap.size (flat l[i]).toArray).heap.size = W2.heap.size := by simp
        have hlt2 : ∀ k, g2 k ≠ none → w.heap.size ≤ k ∧ k < W2.heap.size := fun k hk => by
          rcases hU2.new k hk with h1 | h1
          · exact ⟨(hFr.lt k h1).1, Nat.lt_of_lt_of_le (hFr.lt k h1).2 hU2.keep.size⟩
          · exact ⟨by omega, h1.2⟩
        have hR3 : Room (W2.setRow wr.heap.size (flat l[i]).toArray) (.slice (some ⟨wr.heap.size, 0, none⟩) l[i].length l[i].length) l[i] :=
          ⟨by rw [flat_len], .inr ⟨wr.heap.size, l[i].length, (flat l[i]).toArray, rfl, Nat.zero_le _, setRow_heap _ _ _ _ _ _ hk2, Nat.le_refl _, by unfold maxLen; omega, by simp [flat_len], by rw [← flat_len, List.take_length]⟩⟩
        have hu2 : W2.cell? ⟨w.heap.size, i, none⟩ = some (.slice (some ⟨wr.heap.size, 0, none⟩) l[i].length l[i].length) := by
          obtain ⟨rv, ha, hs, _, _⟩ := hFr.tab
          have h1 : (wr.alloc (.cells Z 75)).heap[w.heap.size]? = some (.cells rv 73 (0, 0)) := (heap_alloc_old _ _ hcb).trans ha
          rw [← hcm, cell_of_row _ _ _ _ _ _ (heap_setCell_same _ _ i _ _ _ h1), Array.getElem?_setIfInBounds_self_of_lt (by omega)]
        obtain ⟨hT3, hU3⟩ := hT2.inside (w' := W2.setRow wr.heap.size (flat l[i]).toArray) (fun k hk => (hlt2 k hk).2) i (by rw [List.length_set, hpl]; exact hil) _ l[i] hu2 hR3 rfl rfl rfl (by omega) (fun k _ hk => setRow_other _ _ _ _ (fun e => hk (by rw [e]; rfl)))
        rw [List.set_set, part_set hil] at hT3
        exact ⟨g2, hT3, fun k hk => by rw [hsz]; exact hlt2 k hk⟩
      obtain ⟨W3, hcp, HF3, HB3⟩ := HEnd.out
      have HF3 := hid HF3
      have HB3 := hid HB3
      have hnz : (l[i].length : Int) ≤ 1000000 := by omega
      generalize l[i].length = n at *
      clear hu hru hFr hpl hRz hZs HEnd
      go_wp2_with fail
      exact ⟨⟨i + 1, by go_num, by omega, HF3.out, HB3.out⟩, by simp [intOf]; omega⟩
    · obtain rfl : i = l.length := by omega
      rw [List.take_length, Nat.sub_self] at HFr
      go_wp2_with fail
      go_ret
      refine ⟨_, rfl, ?_⟩
      obtain ⟨gC, hFr⟩ := HFr.out
      exact ⟨gC, by simpa using hFr, HW.out⟩
/-- clone, of an elder table or none -/
theorem clone_el {w : World} {g : Tg} {ev : Value} {l : Tb Int} (h : ElIs w g ev l) (hlt : ∀ k, g k ≠ none → k < w.heap.size) (hl : l.length ≤ 1000000) (hr : ∀ i (h : i < l.length), l[i].length ≤ 1000000) :
    Calls Tryd.prog 38 #[ev] w fun x w' => ∃ p c, x = .returned (.slice p l.length c) ∧ Hid (∃ gC, ElIs w' gC (.slice p l.length c) l ∧ (∀ k, gC k ≠ none → w.heap.size ≤ k ∧ k < w'.heap.size) ∧ Below w.heap.size w w') := by
  rcases h with ⟨rfl, rfl⟩ | ⟨eb, rfl, hne, hT⟩
  · refine (clone_nil w).mono fun e w' ⟨he, hw⟩ => ⟨none, 0, he, ?_⟩
    subst hw
    exact ⟨fun _ => none, .inl ⟨rfl, rfl⟩, fun k hk => absurd rfl hk, Below.refl _ _⟩
  · refine (clone_tab (e' := true) hT hlt hl hr).mono fun e w' ⟨cb, he, hh⟩ => ⟨_, _, he, ?_⟩
    obtain ⟨gC, hF, hB⟩ := hh.out
    exact ⟨gC, .inr ⟨cb, rfl, hne, hF.tab⟩, hF.lt, hB⟩
/-- two sets of blocks, and one more -/
def Tg.join (g1 g2 : Tg) (m : Nat) : Tg := fun k => if k = m then some .dict else match g1 k with
  | some t => some t
  | none => g2 k
/-- what was cloned is a dict -/
theorem cloned {B : Nat} {w w' : World} {g1 g2 : Tg} {cb : Nat} {ev : Value} {T : TM Int} {many : Nat} {m : Nat} (h1 : TabIs w g1 false cb T.nw) (h2 : ElIs w g2 ev T.el) (l1 : ∀ k, g1 k ≠ none → m ≤ k ∧ k < w.heap.size) (l2 : ∀ k, g2 k ≠ none → m ≤ k ∧ k < w.heap.size) (hd : ∀ k, g1 k ≠ none → g2 k = none) (hB : B ≤ m)
    (hw : w' = w.alloc (.cells (headC cb ev T many) 68)) : Lies B w' (Tg.join g1 g2 w.heap.size) w.heap.size cb ev T many ∧ ∀ k, Tg.join g1 g2 w.heap.size k ≠ none → m ≤ k ∨ k = w.heap.size := by
  subst hw
  have e1 : ∀ k t, g1 k = some t → Tg.join g1 g2 w.heap.size k = some t ∧ (w.alloc (.cells (headC cb ev T many) 68)).heap[k]? = w.heap[k]? := fun k t e => by
    have := (l1 k (by rw [e]; simp)).2
    exact ⟨by unfold Tg.join; rw [if_neg (by omega), e], heap_alloc_old _ _ this⟩
  have e2 : ∀ k t, g2 k = some t → Tg.join g1 g2 w.heap.size k = some t ∧ (w.alloc (.cells (headC cb ev T many) 68)).heap[k]? = w.heap[k]? := fun k t e => by
    have := (l2 k (by rw [e]; simp)).2
    have h0 : g1 k = none := by
      cases h : g1 k with
      | none => rfl
      | some t => have := hd k (by rw [h]; simp); rw [e] at this; cases this
    exact ⟨by unfold Tg.join; rw [if_neg (by omega), h0]; exact e, heap_alloc_old _ _ this⟩
  have e3 : ∀ k, Tg.join g1 g2 w.heap.size k ≠ none → k = w.heap.size ∨ g1 k ≠ none ∨ g2 k ≠ none := fun k hk => by
    unfold Tg.join at hk
    split at hk
    · exact .inl ‹_›
    · cases h : g1 k with
      | none => rw [h] at hk; exact .inr (.inr hk)
      | some t => exact .inr (.inl (by simp))
  refine ⟨⟨heap_alloc_new w _, if_pos rfl, h1.turn (fun k => e1 k _) (fun k i => e1 k _), h2.turn (fun k => e2 k _) (fun k i => e2 k _), fun k hk => ?_⟩, fun k hk => ?_⟩
  · have hcb := (l1 cb (by obtain ⟨_, _, _, t, _⟩ := h1; rw [t]; simp))
    rcases e3 k hk with rfl | h | h
    · simp; omega
    · have := l1 k h; simp; omega
    · have := l2 k h; simp; omega
  · rcases e3 k hk with h | h | h
    · exact .inr h
    · exact .inl (l1 k h).1
    · exact .inl (l2 k h).1

end Go.Proofs.YtphegggekcjenaaDoor.DI
