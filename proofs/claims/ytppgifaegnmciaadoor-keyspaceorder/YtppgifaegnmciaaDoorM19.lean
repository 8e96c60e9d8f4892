/- CopyQ. -/
import Derived.Lib.SliceRun
import Derived.Test.YtppgifaegnmciaaDoorM15
namespace Go.Proofs.YtppgifaegnmciaaDoor
open Go.RowKit

/-- rows of the call's own that may be written -/
structure Wt (B : Nat) (w : World) (pp ip : Option Addr) (np ni : Nat) : Prop where
  items : 0 < ni → ∃ g o cs, ip = some ⟨g, o, none⟩ ∧ B ≤ g ∧ w.heap[g]? = some (.cells cs 9 (0, 0))
  pairs : 0 < np → ∃ g o cs, pp = some ⟨g, o, none⟩ ∧ B ≤ g ∧ w.heap[g]? = some (.cells cs 83 (0, 0))
theorem Wt.turn {B : Nat} {w w' : World} {pp ip : Option Addr} {np ni : Nat} (h : Wt B w pp ip np ni) (hb : Below w.heap.size w w') : Wt B w' pp ip np ni := by
  refine ⟨fun k => ?_, fun k => ?_⟩
  · obtain ⟨g, o, cs, h1, h2, h3⟩ := h.items k
    exact ⟨g, o, cs, h1, h2, (hb.block g (Array.getElem?_eq_some_iff.1 h3).1).trans h3⟩
  · obtain ⟨g, o, cs, h1, h2, h3⟩ := h.pairs k
    exact ⟨g, o, cs, h1, h2, (hb.block g (Array.getElem?_eq_some_iff.1 h3).1).trans h3⟩
/-- a row is put behind an empty one -/
theorem cloneT_any_run (a : Addr) (c : Nat) (l : Row) (w : World) (h : Rd w (some a) c l) (hl : l.length * 16 ≤ 140737488351232) :
    ∃ q d W', (Builtin.append_ #[30, 30] 30 #[.slice (some ⟨w.heap.size, 0, none⟩) 0 0, .slice (some a) l.length c]).run Tryd.prog (w.alloc (.cells #[] 9)) = .ok (.slice q l.length d) W' ∧ Own w.heap.size W' (.slice q l.length d) l ∧ Below w.heap.size w W' := by
  obtain ⟨i0, hi, hz0, hz1, hz2⟩ := info_parts infoS
  have hb := below_alloc w (.cells #[] 9)
  have ho : (w.alloc (.cells #[] 9)).ownsRow w.heap.size 9 1 (.slice (some ⟨w.heap.size, 0, none⟩) 0 0) 0 [] := World.ownsRow_lit w #[] 0 (Nat.le_refl _) (by unfold maxLen; omega) rfl
  obtain ⟨v', W', hrun, ho', hgr, _⟩ : ∃ v' W', (Builtin.append_ #[30, 30] 30 #[.slice (some ⟨w.heap.size, 0, none⟩) 0 0, .slice (some a) l.length c]).run Tryd.prog (w.alloc (.cells #[] 9)) = .ok v' W' ∧ W'.ownsRow w.heap.size 9 1 v' (0 + l.length) ([] ++ (l.map txt)) ∧ (w.alloc (.cells #[] 9)).grownBy W' (some w.heap.size) ∧ True := by
    by_cases hne : l = []
    · subst hne
      obtain ⟨v', W', h1, h2, h3, _⟩ := run_append_own (P := Tryd.prog) (w.alloc (.cells #[] 9)) w.heap.size 30 30 9 i0 (.string ⟨#[]⟩) 1 16 Tryd.underlying30 hi hz0 hz1 hz2 rfl (by decide) _ _ _ ho a 0 c [] rfl (fun j u hj => by simp at hj) (fun u hu => by cases hu) (by unfold maxLen; omega) (by omega) hb.size
      exact ⟨v', W', h1, h2, h3, trivial⟩
    · obtain ⟨g, off, e, hc⟩ := h.strs hne
      injection e with e
      subst e
      obtain ⟨v', W', h1, h2, h3, _⟩ := run_append_own (P := Tryd.prog) (w.alloc (.cells #[] 9)) w.heap.size 30 30 9 i0 (.string ⟨#[]⟩) 1 16 Tryd.underlying30 hi hz0 hz1 hz2 rfl (by decide) _ _ _ ho ⟨g, off, none⟩ l.length c (l.map txt) (by simp)
          (fun j u' hj => by
            rw [Go.WideShapes.add_plain]
            rw [List.getElem?_map] at hj
            cases hm : l[j]? with
            | none => rw [hm] at hj; cases hj
            | some x =>
              rw [hm] at hj
              obtain ⟨hjl, e⟩ := List.getElem?_eq_some_iff.1 hm
              rw [← hj, ← e]
              exact cell_turn (hc j hjl) (hb.block g (block_lt_of_cell (hc j hjl))))
          (fun u' hu' => by
            obtain ⟨x, _, rfl⟩ := List.mem_map.1 hu'
            rfl)
          (by unfold maxLen; omega) (by omega) hb.size
      exact ⟨v', W', h1, h2, h3, trivial⟩
  rw [Nat.zero_add, List.nil_append] at ho'
  have ho2 : Own w.heap.size W' v' l := ho'
  obtain ⟨q, d, rfl, -⟩ := ho2.shape
  exact ⟨q, d, W', hrun, ho2, hb.grown hgr hb.size (fun k hk => by injection hk with hk; omega)⟩
set_option maxHeartbeats 1000000 in
set_option maxRecDepth 100000 in
theorem cloneT_any (pa : Option Addr) (c : Nat) (l : Row) (w : World) (h : Rd w pa c l) (hl : l.length * 16 ≤ 140737488351232) :
    Calls Tryd.prog 49 #[.slice pa l.length c] w fun e w' => ∃ q d, e = .returned (.slice q l.length d) ∧ Hid (Own w.heap.size w' (.slice q l.length d) l ∧ Below w.heap.size w w') := by
  cases pa with
  | none =>
    obtain rfl : c = 0 := h.nil rfl
    obtain rfl : l = [] := List.length_eq_zero_iff.1 (by have := h.cap; omega)
    have eq0 : ∀ w, (binOp .eql 30 (.slice none 0 0) (.slice none 0 0)).run Tryd.prog w = .ok (.bool true) w := fun w => Lib.run_eql_slice_nil (P := Tryd.prog) w 30 9 none 0 0 0 0 Tryd.underlying30
    have HO : Hid (Own w.heap.size w (.slice none 0 0) []) := World.ownsRow_nil _ _ _ _
    go_enter Tryd.func49, Tryd.ntmps49
    go_wp2_with fail
    go_ret
    exact ⟨none, 0, rfl, HO.out, Below.refl _ _⟩
  | some a =>
    obtain ⟨q, d, W', hrun, ho, hb⟩ := cloneT_any_run a c l w h hl
    have HR := hid hrun
    have HO := hid ho
    have HB := hid hb
    obtain ⟨n, hn⟩ : ∃ n, n = l.length := ⟨_, rfl⟩
    rw [← hn] at HR HO ⊢
    have eq0 : ∀ w, (binOp .eql 30 (.slice (some a) n c) (.slice none 0 0)).run Tryd.prog w = .ok (.bool false) w := fun w => Lib.run_eql_slice_nil (P := Tryd.prog) w 30 9 (some a) n c 0 0 Tryd.underlying30
    clear h hl hrun ho hb hn
    go_enter Tryd.func49, Tryd.ntmps49
    go_wp2_with (refine wpList_append_runs rfl _ _ 30 30 rfl _ _ _ _ rfl rfl HR.out (Hid.out ?_))
    refine hid ?_
    go_wp2_with fail
    go_ret
    exact ⟨q, d, rfl, HO.out, HB.out⟩
/-- a row is put behind an empty one -/
theorem cloneP_any_run (a : Addr) (c : Nat) (l : List (Nm × Nm)) (w : World) (h : Rp w (some a) c l) (hl : l.length * 32 ≤ 140737488351232) :
    ∃ q d W', (Builtin.append_ #[29, 29] 29 #[.slice (some ⟨w.heap.size, 0, none⟩) 0 0, .slice (some a) l.length c]).run Tryd.prog (w.alloc (.cells #[] 83)) = .ok (.slice q l.length d) W' ∧ OwnP w.heap.size W' (.slice q l.length d) l ∧ Below w.heap.size w W' := by
  obtain ⟨i0, hi, hz0, hz1, hz2⟩ := info_parts infoP
  have hb := below_alloc w (.cells #[] 83)
  have ho : (w.alloc (.cells #[] 83)).ownsRow w.heap.size 83 2 (.slice (some ⟨w.heap.size, 0, none⟩) 0 0) 0 [] := World.ownsRow_lit w #[] 0 (Nat.le_refl _) (by unfold maxLen; omega) rfl
  obtain ⟨v', W', hrun, ho', hgr, _⟩ : ∃ v' W', (Builtin.append_ #[29, 29] 29 #[.slice (some ⟨w.heap.size, 0, none⟩) 0 0, .slice (some a) l.length c]).run Tryd.prog (w.alloc (.cells #[] 83)) = .ok v' W' ∧ W'.ownsRow w.heap.size 83 2 v' (0 + l.length) ([] ++ (pcs l)) ∧ (w.alloc (.cells #[] 83)).grownBy W' (some w.heap.size) ∧ True := by
    by_cases hne : l = []
    · subst hne
      obtain ⟨v', W', h1, h2, h3, _⟩ := run_append_own (P := Tryd.prog) (w.alloc (.cells #[] 83)) w.heap.size 29 29 83 i0 (.agg #[.string ⟨#[]⟩, .string ⟨#[]⟩]) 2 32 Tryd.underlying29 hi hz0 hz1 hz2 rfl (by decide) _ _ _ ho a 0 c [] rfl (fun j u hj => by simp at hj) (fun u hu => by cases hu) (by unfold maxLen; omega) (by omega) hb.size
      exact ⟨v', W', h1, h2, h3, trivial⟩
    · obtain ⟨g, off, e, hc⟩ := h.prs hne
      injection e with e
      subst e
      obtain ⟨v', W', h1, h2, h3, _⟩ := run_append_own (P := Tryd.prog) (w.alloc (.cells #[] 83)) w.heap.size 29 29 83 i0 (.agg #[.string ⟨#[]⟩, .string ⟨#[]⟩]) 2 32 Tryd.underlying29 hi hz0 hz1 hz2 rfl (by decide) _ _ _ ho ⟨g, off, none⟩ l.length c (pcs l) (by exact pcs_len l)
          (fun j u' hj => by
            rw [Go.WideShapes.add_plain]
            have hjl : j < l.length * 2 := by have := (List.getElem?_eq_some_iff.1 hj).1; rwa [pcs_len] at this
            have hi : j / 2 < l.length := by omega
            have h0 := hc (j / 2) hi
            have h1 := pcs_at l (j / 2) hi
            have hbl := hb.block g (block_lt_of_cell h0.1)
            rcases (show j = j / 2 * 2 ∨ j = j / 2 * 2 + 1 by omega) with e | e
            · rw [e] at hj ⊢
              rw [h1.1] at hj
              rw [← hj]
              exact cell_turn h0.1 hbl
            · rw [e] at hj ⊢
              rw [h1.2] at hj
              rw [← hj]
              exact cell_turn h0.2 hbl)
          (fun u' hu' => by
            obtain ⟨x, _, hx⟩ := List.mem_flatMap.1 hu'
            simp only [List.mem_cons, List.not_mem_nil, or_false] at hx
            rcases hx with rfl | rfl <;> rfl)
          (by unfold maxLen; omega) (by omega) hb.size
      exact ⟨v', W', h1, h2, h3, trivial⟩
  rw [Nat.zero_add, List.nil_append] at ho'
  have ho2 : OwnP w.heap.size W' v' l := ho'
  obtain ⟨q, d, rfl⟩ := ho2.shape
  exact ⟨q, d, W', hrun, ho2, hb.grown hgr hb.size (fun k hk => by injection hk with hk; omega)⟩
set_option maxHeartbeats 1000000 in
set_option maxRecDepth 100000 in
theorem cloneP_any (pa : Option Addr) (c : Nat) (l : List (Nm × Nm)) (w : World) (h : Rp w pa c l) (hl : l.length * 32 ≤ 140737488351232) :
    Calls Tryd.prog 48 #[.slice pa l.length c] w fun e w' => ∃ q d, e = .returned (.slice q l.length d) ∧ Hid (OwnP w.heap.size w' (.slice q l.length d) l ∧ Below w.heap.size w w') := by
  cases pa with
  | none =>
    obtain rfl : c = 0 := h.nil rfl
    obtain rfl : l = [] := List.length_eq_zero_iff.1 (by have := h.cap; omega)
    have eq0 : ∀ w, (binOp .eql 29 (.slice none 0 0) (.slice none 0 0)).run Tryd.prog w = .ok (.bool true) w := fun w => Lib.run_eql_slice_nil (P := Tryd.prog) w 29 83 none 0 0 0 0 Tryd.underlying29
    have HO : Hid (OwnP w.heap.size w (.slice none 0 0) []) := World.ownsRow_nil _ _ _ _
    go_enter Tryd.func48, Tryd.ntmps48
    go_wp2_with fail
    go_ret
    exact ⟨none, 0, rfl, HO.out, Below.refl _ _⟩
  | some a =>
    obtain ⟨q, d, W', hrun, ho, hb⟩ := cloneP_any_run a c l w h hl
    have HR := hid hrun
    have HO := hid ho
    have HB := hid hb
    obtain ⟨n, hn⟩ : ∃ n, n = l.length := ⟨_, rfl⟩
    rw [← hn] at HR HO ⊢
    have eq0 : ∀ w, (binOp .eql 29 (.slice (some a) n c) (.slice none 0 0)).run Tryd.prog w = .ok (.bool false) w := fun w => Lib.run_eql_slice_nil (P := Tryd.prog) w 29 83 (some a) n c 0 0 Tryd.underlying29
    clear h hl hrun ho hb hn
    go_enter Tryd.func48, Tryd.ntmps48
    go_wp2_with (refine wpList_append_runs rfl _ _ 29 29 rfl _ _ _ _ rfl rfl HR.out (Hid.out ?_))
    refine hid ?_
    go_wp2_with fail
    go_ret
    exact ⟨q, d, rfl, HO.out, HB.out⟩
theorem own_block {B : Nat} {w : World} {e : TypeId} {size : Nat} {q : Option Addr} {n m d : Nat} {xs : List Value} (h : w.ownsRow B e size (.slice q n d) m xs) (hm : 0 < m) : ∃ g o cs, q = some ⟨g, o, none⟩ ∧ B ≤ g ∧ w.heap[g]? = some (.cells cs e (0, 0)) := by
  rcases h.2 with ⟨h1, h0⟩ | ⟨g, cap, cur, h1, h2, h3, _⟩
  · omega
  · injection h1 with h1 _ _
    exact ⟨g, 0, cur, h1, h2, h3⟩
set_option maxHeartbeats 4000000 in
set_option maxRecDepth 100000 in
/-- Copy -/
theorem pcopy_any (m : Vl) (pp : Option Addr) (pc' : Nat) (ip : Option Addr) (ic : Nat) (w : World) (hR : m.pairs.length * 32 ≤ 140737488351232 ∧ m.items.length * 16 ≤ 140737488351232) (hV : VI w m pp pc' ip ic) :
    Calls Tryd.prog 36 #[vv m pp pc' ip ic] w fun e w' => ∃ pp2 pc2 ip2 ic2, e = .returned (vv m pp2 pc2 ip2 ic2) ∧ Hid (VI w' m pp2 pc2 ip2 ic2 ∧ Wt w.heap.size w' pp2 ip2 m.pairs.length m.items.length ∧ Below w.heap.size w w') := by
  obtain ⟨k, t, ps, is, x, y⟩ := m
  dsimp only at hR
  have HA := hid (al_two w (vob ⟨k, t, ps, is, x, y⟩ pp pc' ip ic) (vob zeroV none 0 none 0))
  obtain ⟨a0, a1, a2, a3, a4, a5⟩ := val_facts HA.out.2.1
  dsimp only at a0 a1 a2 a3 a4 a5
  have HVI := hid hV
  have HP := hid (fun W h => cloneP_any pp pc' ps W h hR.1)
  have HI := hid (fun W h => cloneT_any ip ic is W h hR.2)
  dsimp only
  clear hV hR
  go_enter Tryd.func36, Tryd.ntmps36
  go_wp2_with fail
  refine (HP.out _ (HVI.out.below HA.out.1).pairs).mono ?_; rintro e w1 ⟨q1, d1, rfl, hh⟩
  have hx1 := (hh.out.2.block w.heap.size (by simp; omega)).trans HA.out.2.1
  have hy1 := (hh.out.2.block (w.heap.size + 1) (by simp)).trans HA.out.2.2.1
  have hs1 : w.heap.size + 2 ≤ w1.heap.size := by have := hh.out.2.size; rw [HA.out.2.2.2] at this; exact this
  have ho1 := hh.out.1
  rw [HA.out.2.2.2] at ho1
  have HX1 : Hid ((w1.setCell ⟨w.heap.size, 2, none⟩ (.slice q1 ps.length d1)).heap[w.heap.size]? = some (.cells #[.int .i64 k, txt t, .slice q1 ps.length d1, .slice ip is.length ic, .int .i64 x, .int .i64 y] 34 (0, 0))) := heap_setCell_same _ _ 2 _ _ _ hx1
  have HY1 := hid ((Below.heap_setCell w1 ⟨w.heap.size, 2, none⟩ (.slice q1 ps.length d1) (w.heap.size + 1) (by simp)).trans hy1)
  have HO1 : Hid (OwnP (w.heap.size + 2) (w1.setCell ⟨w.heap.size, 2, none⟩ (.slice q1 ps.length d1)) (.slice q1 ps.length d1) ps) := OwnP.set ho1 _ _ _ (by omega)
  have HW1 := hid ((HA.out.1.trans (hh.out.2.mono HA.out.1.size)).setCell (p := ⟨w.heap.size, 2, none⟩) (Nat.le_refl _) (.slice q1 ps.length d1))
  have HS1 : Hid (w.heap.size + 2 ≤ (w1.setCell ⟨w.heap.size, 2, none⟩ (.slice q1 ps.length d1)).heap.size) := Nat.le_trans hs1 (Below.refl 0 w1 |>.setCell (p := ⟨w.heap.size, 2, none⟩) (Nat.zero_le _) (.slice q1 ps.length d1)).size
  obtain ⟨f0, f1, f2, f3, f4, f5⟩ := val_frozen hx1
  obtain ⟨b0, b1, b2, b3, b4, b5⟩ := val_facts hx1
  dsimp only at b0 b1 b2 b3 b4 b5
  clear hh hx1 hy1 ho1 a0 a1 a2 a3 a4 a5
  go_wp2_with fail
  refine (HI.out _ (HVI.out.below HW1.out).items).mono ?_; rintro e w2 ⟨q2, d2, rfl, hh⟩
  have hx2 := (hh.out.2.block w.heap.size (by have := HS1.out; omega)).trans HX1.out
  have hy2 := (hh.out.2.block (w.heap.size + 1) (by have := HS1.out; omega)).trans HY1.out
  have HX2 : Hid ((w2.setCell ⟨w.heap.size, 3, none⟩ (.slice q2 is.length d2)).heap[w.heap.size]? = some (.cells #[.int .i64 k, txt t, .slice q1 ps.length d1, .slice q2 is.length d2, .int .i64 x, .int .i64 y] 34 (0, 0))) := heap_setCell_same _ _ 3 _ _ _ hx2
  have HY2 := hid ((Below.heap_setCell w2 ⟨w.heap.size, 3, none⟩ (.slice q2 is.length d2) (w.heap.size + 1) (by simp)).trans hy2)
  have HP2 : Hid (OwnP (w.heap.size + 2) (w2.setCell ⟨w.heap.size, 3, none⟩ (.slice q2 is.length d2)) (.slice q1 ps.length d1) ps) := OwnP.set (owns_below HO1.out hh.out.2) _ _ _ (by omega)
  have HO2 : Hid (Own (w.heap.size + 2) (w2.setCell ⟨w.heap.size, 3, none⟩ (.slice q2 is.length d2)) (.slice q2 is.length d2) is) := own_set (hh.out.1.base HS1.out) _ _ _ (by omega)
  have HW2 := hid ((HW1.out.trans (hh.out.2.mono HW1.out.size)).setCell (p := ⟨w.heap.size, 3, none⟩) (Nat.le_refl _) (.slice q2 is.length d2))
  clear f0 f1 f2 f3 f4 f5 b0 b1 b2 b3 b4 b5
  obtain ⟨f0, f1, f2, f3, f4, f5⟩ := val_frozen hx2
  obtain ⟨b0, b1, b2, b3, b4, b5⟩ := val_facts hx2
  obtain ⟨r0, r1, r2, r3, r4, r5⟩ := val_facts hy2
  obtain ⟨s0, s1, s2, s3, s4, s5⟩ := val_frozen hy2
  clear hh hx2 hy2
  go_wp2_with fail
  refine bodyPost_ret (v := vv ⟨k, t, ps, is, x, y⟩ q1 d1 q2 d2) ?_ rfl ?_
  · exact ret_val rfl rfl (set_six HY2.out HW2.out (by omega)).1
  · refine ⟨q1, d1, q2, d2, rfl, ?_, ⟨fun h => ?_, fun h => ?_⟩, (set_six HY2.out HW2.out (by omega)).2⟩
    · exact ⟨((OwnP.set6 HP2.out (w.heap.size + 1) (by omega) _ _ _ _ _ _)).rp, ((own_set6 HO2.out (w.heap.size + 1) (by omega) _ _ _ _ _ _)).rd⟩
    · obtain ⟨g, o, cs, h1, h2, h3⟩ := own_block (own_set6 HO2.out (w.heap.size + 1) (by omega) _ _ _ _ _ _) h
      exact ⟨g, o, cs, h1, by omega, h3⟩
    · obtain ⟨g, o, cs, h1, h2, h3⟩ := own_block (OwnP.set6 HP2.out (w.heap.size + 1) (by omega) _ _ _ _ _ _) h
      exact ⟨g, o, cs, h1, by omega, h3⟩

end Go.Proofs.YtppgifaegnmciaaDoor
