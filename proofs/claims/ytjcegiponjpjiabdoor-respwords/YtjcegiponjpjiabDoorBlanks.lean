/- The words of a line: bytes.FieldsFunc at isBlank. -/
import Derived.Test.YtjcegiponjpjiabDoorSpans
import Derived.Test.YtjcegiponjpjiabDoorShelfU
import Derived.Test.YtjcegiponjpjiabDoorArgs
namespace Go.Proofs.YtjcegiponjpjiabDoor
open Go.RowKit

/-- utf8's tables: what Next reads of the package-level variables -/
structure Envs (w : World) : Prop where
  room : 4 ≤ w.heap.size
  utf : Lib.Utf8Tabs 2 3 w
theorem Envs.keep {w w' : World} (h : Envs w) (hs : w.heap.size ≤ w'.heap.size) (hb : ∀ k, k < 4 → w'.heap[k]? = w.heap[k]?) : Envs w' := by
  refine ⟨Nat.le_trans h.room hs, ?_, ?_⟩
  · intro c hc
    rw [World.cell?_of_block (hb 2 (by decide))]; exact h.utf.1 c hc
  · intro i hi
    have e : ∀ k, w'.cell? ⟨3, k, none⟩ = w.cell? ⟨3, k, none⟩ := fun k => World.cell?_of_block (hb 3 (by decide))
    rw [e, e]; exact h.utf.2 i hi
theorem Envs.below {w w' : World} {n : Nat} (h : Envs w) (hb : Below n w w') (hn : 4 ≤ n) : Envs w' := h.keep hb.size fun k hk => hb.block k (by omega)
theorem Envs.only {w w' : World} {b : Nat} (h : Envs w) (hb : Only b w w') (hn : 4 ≤ b) : Envs w' := h.keep hb.size fun k hk => hb.block k (by have := h.room; omega) (by omega)
set_option maxHeartbeats 1000000 in
set_option maxRecDepth 100000 in
theorem isBlank_yes (R : Nat) (w : World) (h : R = 32 ∨ R = 9) :
    Calls Tryd.prog 27 #[.int .i32 R] w fun e w' => e = .returned (.bool true) ∧ w' = w := by
  rcases h with rfl | rfl
  all_goals
    go_enter Tryd.func27, Tryd.ntmps27
    go_wp2
    go_ret
    exact ⟨rfl, rfl⟩
set_option maxHeartbeats 1000000 in
set_option maxRecDepth 100000 in
theorem isBlank_no (R : Nat) (w : World) (h1 : R ≠ 32) (h2 : R ≠ 9) :
    Calls Tryd.prog 27 #[.int .i32 R] w fun e w' => e = .returned (.bool false) ∧ w' = w := by
  obtain ⟨z, hz⟩ : ∃ z : Int, z = (R : Int) := ⟨_, rfl⟩
  have q1 : (z == 32) = false := beq_eq_false_iff_ne.2 (by omega)
  have q2 : (z == 9) = false := beq_eq_false_iff_ne.2 (by omega)
  rw [← hz]
  clear hz h1 h2
  go_enter Tryd.func27, Tryd.ntmps27
  go_wp2
  go_ret
  exact ⟨rfl, rfl⟩
theorem infoSpan : (Tryd.prog.info? 70).map (fun i => (i.zero, i.size, i.bytes)) = some (some (.agg #[.int .i64 0, .int .i64 0]), 2, 16) := by kernel_rfl
theorem push_span (B : Nat) (w : World) (v : Value) (L : List (Nat × Nat)) (a b : Nat) (h : w.ownsRow B 70 2 v L.length (Lib.spanCells L)) (hB : B ≤ w.heap.size) (hl : L.length ≤ 1000000) :
    ∃ v' w', (Builtin.append_ #[66, 66] 66 #[v, .slice (some ⟨w.heap.size, 0, none⟩) 1 1]).run Tryd.prog (w.alloc (.cells #[.int .i64 (a : Int), .int .i64 (b : Int)] 70)) = .ok v' w' ∧ w'.ownsRow B 70 2 v' (L ++ [(a, b)]).length (Lib.spanCells (L ++ [(a, b)])) ∧ Below B w w' ∧ B ≤ w'.heap.size ∧ v' ≠ .slice none 0 0 := by
  obtain ⟨i0, hi, hz0, hz1, hz2⟩ := info_parts infoSpan
  have hown' := owns_below h (below_alloc w (.cells #[.int .i64 (a : Int), .int .i64 (b : Int)] 70))
  obtain ⟨v', w', hrun, ho, hgr, hnil⟩ := run_append_own (P := Tryd.prog) (w.alloc (.cells #[.int .i64 (a : Int), .int .i64 (b : Int)] 70)) B 66 66 70 i0 (.agg #[.int .i64 0, .int .i64 0]) 2 16 Tryd.underlying66 hi hz0 hz1 hz2 rfl (by decide) _ _ _ hown' ⟨w.heap.size, 0, none⟩ 1 1 [.int .i64 (a : Int), .int .i64 (b : Int)] rfl
    (fun j u hj => by
      rw [Go.WideShapes.add_plain, cell_of_row _ _ _ _ _ _ (heap_alloc_new w _)]
      simpa using hj)
    (fun u hu => by simp at hu; rcases hu with rfl | rfl <;> rfl) (by unfold maxLen; omega) (by omega) (by simp; omega)
  refine ⟨v', w', hrun, ?_, ?_, ?_, fun e => ?_⟩
  · rw [Lib.spanCells_snoc, List.length_append]
    exact ho
  · exact ((Below.refl B w).alloc hB _).grown hgr (by simp; omega) (fun k hk => (World.ownsRow.lt h k hk).1)
  · have := hgr.size; simp at this; omega
  · have := (hnil.1 e).2; omega
theorem owns_other {W : World} {B e size n : Nat} {v : Value} {xs : List Value} {A t m : Nat} {f : Nat → Value} (h : W.ownsRow B e size v n xs) (hA : W.rowIs A t m f) (ht : ¬ t = e) {k : Nat} {u : Value} : (W.setCell ⟨A, k, none⟩ u).ownsRow B e size v n xs := by
  refine ⟨h.1, ?_⟩
  rcases h.2 with h | ⟨g, cap, cur, h1, h2, h3, h4⟩
  · exact .inl h
  · refine .inr ⟨g, cap, cur, h1, h2, ?_, h4⟩
    obtain ⟨c, hc, _⟩ := hA
    rw [heap_setCell_other W ⟨A, k, none⟩ g u (fun e => by
      simp at e
      subst e
      rw [h3] at hc
      injection hc with hc
      injection hc with _ hc
      exact ht hc.symm)]
    exact h3
/-- the slices of a row of spans, up to the first k -/
def pieceAt (b o : Nat) (SP : List (Nat × Nat)) (k j : Nat) : Value := if j < k then .slice (some ⟨b, o + (SP.getD j (0, 0)).1, none⟩) ((SP.getD j (0, 0)).2 - (SP.getD j (0, 0)).1) ((SP.getD j (0, 0)).2 - (SP.getD j (0, 0)).1) else .slice none 0 0
/-- where a word that is under way began -/
def begun : Option Nat → Int
  | none => -1
  | some a => a
theorem parts_pieces {w W : World} {b o A : Nat} {l : List UInt8} {SP : List (Nat × Nat)} (hA : At w (some ⟨b, o, none⟩) l) (hb : Below w.heap.size w W) (ok : ∀ x ∈ SP, x.1 < x.2 ∧ x.2 ≤ l.length) (hR : W.rowIs A 26 SP.length (pieceAt b o SP SP.length)) : Parts W (some ⟨A, 0, none⟩) (SP.map fun x => cutOut l x.1 x.2) := fun _ => by
  refine ⟨A, 0, rfl, fun i hi => ?_⟩
  rw [List.length_map] at hi
  have ho := ok SP[i] (List.getElem_mem hi)
  have hlen : (cutOut l SP[i].1 SP[i].2).length = SP[i].2 - SP[i].1 := cutOut_len ho.2
  refine ⟨some ⟨b, o + SP[i].1, none⟩, SP[i].2 - SP[i].1, ?_, ?_⟩
  · rw [Nat.zero_add, hR.cell hi]
    simp only [List.getElem_map, hlen, pieceAt, if_pos hi, List.getD_eq_getElem?_getD, List.getElem?_eq_getElem hi, Option.getD_some]
  · have h1 := (hA.take SP[i].2).drop SP[i].1
    rw [Go.WideShapes.add_plain] at h1
    simp only [List.getElem_map]
    exact h1.below hb

theorem own_slice {w : World} {B e size n : Nat} {v : Value} {xs : List Value} (h : w.ownsRow B e size v n xs) (hn : v ≠ .slice none 0 0) : ∃ g cap, v = .slice (some ⟨g, 0, none⟩) n cap := by
  rcases h.2 with ⟨h, _⟩ | ⟨g, cap, _, h, _⟩
  · exact absurd h hn
  · exact ⟨g, cap, h⟩
theorem pieceAt_next {b o : Nat} {SP : List (Nat × Nat)} {k : Nat} (h : k < SP.length) : pieceAt b o SP (k + 1) = fun j => if j = k then .slice (some ⟨b, o + SP[k].1, none⟩) (SP[k].2 - SP[k].1) (SP[k].2 - SP[k].1) else pieceAt b o SP k j := by
  funext j
  unfold pieceAt
  by_cases e : j = k
  · subst e; simp [h, List.getD]
  · rw [if_neg e]
    by_cases h1 : j < k
    · rw [if_pos (by omega), if_pos h1]
    · rw [if_neg (by omega), if_neg h1]
set_option maxHeartbeats 4000000 in
set_option maxRecDepth 100000 in
theorem fields_any (b o : Nat) (l : List UInt8) (cap : Nat) (w : World) (hE : Envs w) (hA : At w (some ⟨b, o, none⟩) l) (hc : l.length ≤ cap) (hl : l.length ≤ 512) :
    Calls Tryd.prog 26 #[.slice (some ⟨b, o, none⟩) l.length cap, .func (.func 27) #[] #[]] w fun e w' => ∃ A, e = .returned (.slice (some ⟨A, 0, none⟩) (fields l).length (fields l).length) ∧ Hid (Args w.heap.size w' (.slice (some ⟨A, 0, none⟩) (fields l).length (fields l).length) (fields l) ∧ Below w.heap.size w w') := by
  obtain ⟨i0, hi, hz0, hz1, hz2⟩ := info_parts infoSpan
  obtain ⟨W0, hmk, hown0, hg0⟩ := run_make_own (P := Tryd.prog) w w.heap.size 66 70 i0 _ 2 Tryd.underlying66 hi hz0 hz1 .i64 .i64 32 (by rw [hz2]; decide) (by unfold maxLen; decide) (Nat.le_refl _)
  rw [show ((32 : Nat) : Int) = 32 from rfl] at hmk
  have hb0 : Below w.heap.size w W0 := (Below.refl _ w).grown hg0 (Nat.le_refl _) (fun k hk => by cases hk)
  have HE := hid hE
  have HA := hid hA
  have H0 := hid (And.intro hown0 (And.intro hb0 hb0.size))
  have hnn0 : Hid ((.slice (some ⟨w.heap.size, 0, none⟩) 0 32 : Value) ≠ .slice none 0 0) := fun h => by cases h
  have HS0 := hid (spans_first l)
  clear hE hA hown0 hb0 hg0 hi hz0 hz1 hz2
  go_enter Tryd.func26, Tryd.ntmps26
  go_wp2
  go_loopw [5, 6, 7] (fun v5 v6 v7 W => ∃ (i : Nat) (st : Option Nat) (acc : List (Nat × Nat)), v7 = .int .i64 i ∧ v6 = .int .i64 (begun st) ∧ i ≤ l.length ∧ acc.length ≤ i ∧ Hid (Spans l i st acc) ∧ Hid (W.ownsRow w.heap.size 70 2 v5 acc.length (Lib.spanCells acc) ∧ Below w.heap.size w W ∧ w.heap.size ≤ W.heap.size) ∧ Hid (v5 ≠ .slice none 0 0)) (fun _ _ v7 _ => l.length - (intOf v7).toNat)
  case atStart => exact ⟨0, none, [], rfl, rfl, Nat.zero_le _, Nat.le_refl _, HS0.out, H0.out, hnn0.out⟩
  case round =>
    obtain ⟨i, st, acc, rfl, rfl, hi, hacc, HS, HO, HN⟩ := hrel
    by_cases hlt : i < l.length
    · obtain ⟨R, K, hD, hR, hK1, hK, hway⟩ := rune_ways hlt
      have hsz : (⟨(l.drop i).toArray⟩ : ByteArray).size = l.length - i := by simp [ByteArray.size]
      have hbel := HO.out.2.1
      have HDc : Hid (Calls Tryd.prog 33 #[.slice (some ⟨b, o + i, none⟩) (l.length - i) (cap - i)] wr fun e w' => e = .returned (.tuple #[.int .i32 R, .int .i64 K]) ∧ Below wr.heap.size wr w') := by
        have h := Any7.utf8_DecodeRune Tryd.laysS32 ⟨(l.drop i).toArray⟩ b (o + i) (cap - i) wr (HE.out.below hbel HE.out.room).utf (fun j hj => by
          rw [hsz] at hj
          have ha := (HA.out.below hbel).drop i
          rw [Go.WideShapes.add_plain] at ha
          obtain ⟨b', o', e, hcell, _⟩ := ha (fun e => by rw [List.drop_eq_nil_iff] at e; omega)
          injection e with e
          injection e with e1 e2
          subst e1
          subst e2
          rw [hcell j (by simp; omega), get_at _ _ (by simp; omega)])
        rw [hsz, hD] at h
        exact h
      have hci : ¬ cap = i := by omega
      have hiz : (i : Int) < (l.length : Int) := by omega
      have hb2 : (begun st = -1 ∧ st = none) ∨ ∃ a : Nat, begun st = (a : Int) ∧ st = some a := by
        cases st with
        | none => exact .inl ⟨rfl, rfl⟩
        | some a => exact .inr ⟨a, rfl, rfl⟩
      have HW := hid hway
      have HB2 := hid hb2
      clear hway hb2 hsz hD hbel
      go_wp2_with fail
      refine HDc.out.mono ?_; rintro e w1 ⟨rfl, hw1⟩
      have hO1 := HO.out
      have hO2 : w1.ownsRow w.heap.size 70 2 u5 acc.length (Lib.spanCells acc) ∧ Below w.heap.size w w1 ∧ w.heap.size ≤ w1.heap.size := ⟨owns_below hO1.1 hw1, hO1.2.1.trans (hw1.mono hO1.2.2), Nat.le_trans hO1.2.2 hw1.size⟩
      have HO2 := hid hO2
      clear hO1 hO2 hw1 HDc HO
      go_wp2_with fail
      rcases HW.out with ⟨hbk, rfl, hR2⟩ | ⟨h32, h9, hnb⟩
      · refine (isBlank_yes R w1 hR2).mono ?_; rintro e w2 ⟨rfl, rfl⟩
        rcases HB2.out with ⟨hbe, rfl⟩ | ⟨a, hbe, rfl⟩
        · have HS2 := hid (HS.out.pass hlt hbk)
          rw [hbe]
          clear hbk hR2 HW HB2 HS
          go_wp2
          exact ⟨⟨i + 1, none, acc, by go_num, by rw [hbe], by omega, by omega, HS2.out, HO2.out, HN.out⟩, by simp [intOf]; omega⟩
        · have HS2 := hid (HS.out.shut hlt hbk)
          have ha := HS.out.lt a rfl
          obtain ⟨v', w3, hrun, ho3, hb3, hs3, hn3⟩ := push_span w.heap.size w2 u5 acc a i HO2.out.1 HO2.out.2.2 (by omega)
          have HR := hid hrun
          have HO3 := hid (And.intro ho3 (And.intro (HO2.out.2.1.trans hb3) hs3))
          have HN3 := hid hn3
          have hal : (acc ++ [(a, i)]).length = acc.length + 1 := by simp
          rw [hbe]
          clear hbk hR2 HW HB2 HS hrun ho3 hb3 hs3 hn3
          go_wp2_with (at_builtin; refine wpList_append_runs rfl _ _ 66 66 rfl _ _ _ _ rfl rfl HR.out ?_)
          exact ⟨⟨i + 1, none, _, by go_num, rfl, by omega, by omega, HS2.out, HO3.out, HN3.out⟩, by simp [intOf]; omega⟩
      · refine (isBlank_no R w1 h32 h9).mono ?_; rintro e w2 ⟨rfl, rfl⟩
        have HS2 := hid (HS.out.on K hK1 hK hnb)
        rcases HB2.out with ⟨hbe, rfl⟩ | ⟨a, hbe, rfl⟩
        · rw [hbe]
          clear hnb HW HB2 HS
          go_wp2
          exact ⟨⟨i + K, some i, acc, by go_num, rfl, by omega, by omega, HS2.out, HO2.out, HN.out⟩, by simp [intOf]; omega⟩
        · rw [hbe]
          clear hnb HW HB2 HS
          go_wp2
          exact ⟨⟨i + K, some a, acc, by go_num, rfl, by omega, by omega, HS2.out, HO2.out, HN.out⟩, by simp [intOf]; omega⟩
    · obtain rfl : i = l.length := by omega
      have hLast := HS.out.last
      have hb2 : (begun st = -1 ∧ st = none) ∨ ∃ a : Nat, begun st = (a : Int) ∧ st = some a := by
        cases st with
        | none => exact .inl ⟨rfl, rfl⟩
        | some a => exact .inr ⟨a, rfl, rfl⟩
      rcases hb2 with ⟨hbe, rfl⟩ | ⟨a, hbe, rfl⟩
      case' inl =>
        obtain ⟨SP, hSP⟩ : ∃ SP, SP = acc := ⟨_, rfl⟩
        simp only [ends] at hLast
        rw [← hSP] at hLast HO hacc
        rw [hbe]
        obtain ⟨g5, cap5, rfl⟩ := own_slice HO.out.1 HN.out
        have hmk2 := run_make_row' (P := Tryd.prog) 42 26 (.slice none 0 0) 24 Tryd.underlying42 infoBytes rfl .i64 .i64 SP.length (by omega) (by omega)
        have HLs := hid hLast
        have HO3 := hid HO.out
        have hsl : SP.length ≤ 600 := by omega
        clear hLast HS HO hSP HN hnn0 H0 HS0
        go_wp2
      case' inr =>
        have ha := HS.out.lt a rfl
        obtain ⟨v', wr, hrun, ho3, hb3, hs3, hn3⟩ := push_span w.heap.size wr u5 acc a l.length HO.out.1 HO.out.2.2 (by omega)
        have HO3 := hid (And.intro ho3 (And.intro (HO.out.2.1.trans hb3) hs3))
        obtain ⟨SP, hSP⟩ : ∃ SP, SP = acc ++ [(a, l.length)] := ⟨_, rfl⟩
        simp only [ends] at hLast
        have hsl : SP.length ≤ 600 := by rw [hSP]; simp; omega
        rw [← hSP] at hLast HO3 ho3
        rw [hbe]
        obtain ⟨g5, cap5, rfl⟩ := own_slice ho3 hn3
        have hmk2 := run_make_row' (P := Tryd.prog) 42 26 (.slice none 0 0) 24 Tryd.underlying42 infoBytes rfl .i64 .i64 SP.length (by omega) (by omega)
        have HLs := hid hLast
        have HR := hid hrun
        clear hLast HS HO HN hnn0 H0 HS0 hrun ho3 hb3 hs3 hn3 hSP
        go_wp2_with (at_builtin; refine wpList_append_runs rfl _ _ 66 66 rfl _ _ _ _ rfl rfl HR.out ?_)
        clear HR
      all_goals
        obtain ⟨A, hAe⟩ : ∃ A, A = wr.heap.size := ⟨_, rfl⟩
        have HR0 : Hid ((wr.alloc (.cells (madeCells #[.slice none 0 0] SP.length) 26)).rowIs wr.heap.size 26 SP.length (pieceAt b o SP 0)) := World.rowIs_made wr (.slice none 0 0) SP.length 26
        have HB0 := hid (HO3.out.2.1.alloc HO3.out.2.2 (.cells (madeCells #[.slice none 0 0] SP.length) 26))
        have HP0 := hid (owns_below HO3.out.1 (below_alloc wr (.cells (madeCells #[.slice none 0 0] SP.length) 26)))
        have HAge : Hid (w.heap.size ≤ A) := by rw [hAe]; exact HO3.out.2.2
        clear HO3
        rw [← hAe] at HR0
        rw [← hAe]
        clear hAe
        go_loopw [11, 12, 56] (fun _ _ v56 W => ∃ k : Nat, k ≤ SP.length ∧ v56 = .int .i64 k ∧ Hid (W.rowIs A 26 SP.length (pieceAt b o SP k)) ∧ Hid (W.ownsRow w.heap.size 70 2 (.slice (some ⟨g5, 0, none⟩) SP.length cap5) SP.length (Lib.spanCells SP)) ∧ Hid (Below w.heap.size w W)) (fun _ _ v56 _ => SP.length - (intOf v56).toNat)
        case atStart => exact ⟨0, Nat.zero_le _, rfl, HR0.out, HP0.out, HB0.out⟩
        case round =>
          obtain ⟨k, hk, rfl, HR, HP, HB⟩ := hrel
          by_cases hlt2 : k < SP.length
          · have hx := HLs.out.2 SP[k] (List.getElem_mem hlt2)
            have hsc := Lib.spanCells_at SP k SP[k] (List.getElem?_eq_getElem hlt2)
            have HNx := hid (pieceAt_next (b := b) (o := o) hlt2)
            generalize SP[k] = x at hx hsc HNx
            obtain ⟨x1, x2⟩ := x
            simp only at hx hsc HNx
            obtain ⟨hx1, hx2⟩ := hx
            have hc0 : wr.cell? ⟨g5, k * 2, none⟩ = some (.int .i64 x1) := (HP.out.cellAt (k * 2) (by omega)).trans hsc.1
            have hc1 : wr.cell? ⟨g5, k * 2 + 1, none⟩ = some (.int .i64 x2) := (HP.out.cellAt (k * 2 + 1) (by omega)).trans hsc.2
            have HR1 := hid (HR.out.alloc (.cells #[.int .i64 (x1 : Int), .int .i64 (x2 : Int)] 70))
            have cA := HR1.out.cell hlt2
            have fA := HR1.out.frozen k
            have hkz : (k : Int) < (SP.length : Int) := by omega
            have hx1z : (x1 : Int) ≤ (x2 : Int) := by omega
            have hx2z : (x2 : Int) ≤ (cap : Int) := by omega
            have hxne : ¬ x2 = x1 := by omega
            clear hsc
            go_wp2
            refine ⟨⟨k + 1, by omega, by go_num, ?_, owns_other (HP.out.alloc _) HR1.out (by decide), (HB.out.alloc HB.out.size _).setCell (p := ⟨A, k, none⟩) HAge.out _⟩, by simp [intOf]; omega⟩
            rw [HNx.out]
            exact HR1.out.set k _
          · obtain rfl : k = SP.length := by omega
            go_wp2
            go_ret
            have hP := parts_pieces HA.out HB.out HLs.out.2 HR.out
            rw [← HLs.out.1] at hP
            have hle : (fields l).length = SP.length := by rw [HLs.out.1, List.length_map]
            exact ⟨A, by rw [hle]; rfl, Args.of_row (by rw [hle]; exact HR.out) HAge.out (by rw [hle]; omega) hP, HB.out⟩

end Go.Proofs.YtjcegiponjpjiabDoor
