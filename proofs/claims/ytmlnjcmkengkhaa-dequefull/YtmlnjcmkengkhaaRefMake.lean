/- The document's row: Range, Push, Put. -/
import Derived.Test.YtmlnjcmkengkhaaRefCalls
namespace Go.Proofs.Ytmlnjcmkengkhaa
open Go.RowKit

set_option maxHeartbeats 2000000 in
set_option maxRecDepth 100000 in
/-- ref Range -/
theorem rrange_any (P : Nat → Prop) (v : Value) (l : Row) (f t : Int) (w : World) (h : Tl P w v l) (hl : l.length ≤ 256) (f0 : -9223372036854775808 ≤ f) (f1 : f ≤ 9223372036854775807) (t0 : -9223372036854775808 ≤ t) (t1 : t ≤ 9223372036854775807) :
    Calls Try.prog 30 #[v, .int .i64 f, .int .i64 t] w fun e w' => ∃ p c, e = .returned (.slice p (rangeL l f t).length c) ∧ Hid (Tl P w (.slice p (rangeL l f t).length c) (rangeL l f t)) ∧ w' = w := by
  obtain ⟨p, c, rfl, hc⟩ := h.shape
  have HC := hid (fun w => rclamp_any f t l.length w f0 f1 t0 t1 (by omega) (by omega))
  obtain ⟨b1, b2, b3, b4⟩ := range_bounds l f t
  have H := h.part (clA f t l.length).toNat (clB f t l.length).toNat b1 b2
  have hlen := rangeL_len l f t
  rw [hlen]
  rw [show (l.drop (clA f t l.length).toNat).take ((clB f t l.length).toNat - (clA f t l.length).toNat) = rangeL l f t from rfl] at H
  generalize rangeL l f t = R at *
  obtain ⟨a, ha⟩ : ∃ a : Nat, clA f t l.length = a := ⟨(clA f t l.length).toNat, by omega⟩
  obtain ⟨b, hb⟩ : ∃ b : Nat, clB f t l.length = b := ⟨(clB f t l.length).toNat, by omega⟩
  simp only [ha, hb, Int.toNat_natCast] at HC b1 b2 H ⊢
  clear ha hb h hlen b3 b4
  generalize l.length = n at *
  have habz : (a : Int) ≤ (b : Int) := by omega
  have hbcz : (b : Int) ≤ (c : Int) := by omega
  have hsl : ∀ W, (Instr.sliceAt 26 (.slice p n c) (some (.int .i64 a)) (some (.int .i64 b)) none).run Try.prog W = .ok (.slice (if c = a then p else p.map (·.add a)) (b - a) (c - a)) W := fun W => by
    obtain ⟨i0, hi, _, hz1, _⟩ := info_parts infoS
    have he : Try.prog.elem 26 = 9 := by kernel_rfl
    rw [run_sliceAt_slice (P := Try.prog) W 26 _ _ _ _ (by rw [he]; exact Try.underlying26), run_slice_lh (P := Try.prog) W 26 p n c (by rw [he]; exact Try.underlying26) .i64 .i64 a b (by omega) habz hbcz]
    simp [he, sizeOf, typeInfo, hi, hz1, sliced]
  obtain ⟨q, hq⟩ : ∃ q, q = (if c = a then p else p.map (·.add a)) := ⟨_, rfl⟩
  obtain ⟨m, hm⟩ : ∃ m, m = b - a := ⟨_, rfl⟩
  obtain ⟨d, hd⟩ : ∃ d, d = c - a := ⟨_, rfl⟩
  rw [← hq, ← hm, ← hd] at H
  rw [← hm]
  simp only [← hq, ← hm, ← hd] at hsl
  have H' := hid H
  clear H hq hm hd
  go_enter Try.func30, Try.ntmps30
  go_wp2_with fail
  refine (HC.out _).mono ?_; rintro e w1 ⟨rfl, rfl⟩
  go_wp2_with fail
  go_ret
  exact ⟨q, d, rfl, H'.out, rfl⟩
theorem wpList_append_runs {P : Program} {ops : Array Oper} {rest : List Oper} {o : Oper} {a : Act} {w : World} {Q : Exit → Act → World → Prop} (hw : Region.wanted o (yielded ops a.tmps) = true) (s x : Operand) (t u : TypeId)
    (ho : o.op = .call { callee := .builtin .append, args := #[s, x], argTypes := #[t, u] }) (v y v' : Value) (w' : World) (hs : a.eval s = v) (hx : a.eval x = y)
    (hrun : (Builtin.append_ #[t, u] o.type #[v, y]).run P w = .ok v' w') (h : wpList P ops Q rest (a.put o.dst v') w') : wpList P ops Q (o :: rest) a w := by
  refine wpList_step fun K hK => ?_
  rw [if_pos hw]
  unfold Oper.wp execOp
  simp only [ho, resolve, invoke, builtin, Sem.run_bind, Sem.run_pure, Result.andThen_ok, List.map_toArray, List.map_cons, List.map_nil, hs, hx, hrun]
  exact hK _ _ h
theorem Own.shape {B : Nat} {w : World} {v : Value} {l : Row} (h : Own B w v l) : ∃ p c, v = .slice p l.length c ∧ l.length ≤ c := (h.tl (P := fun _ => True) (fun _ _ => trivial)).shape
theorem ret_pair {u u' : Value} {b b' : Bool} (h1 : u = u') (h2 : b = b') : Ending.returned (.tuple #[u, .bool b]) = .returned (.tuple #[u', .bool b']) := by rw [h1, h2]
set_option maxHeartbeats 2000000 in
set_option maxRecDepth 100000 in
/-- ref Push -/
theorem rpush_any (P : Nat → Prop) (v : Value) (l : Row) (f : Bool) (s : List UInt8) (w : World) (h : Tl P w v l) (hp : ∀ k, w.heap.size ≤ k → P k) (hl : l.length ≤ 256) :
    Calls Try.prog 26 #[v, .bool f, txt s] w fun e w' => ∃ p c, e = .returned (.tuple #[.slice p (pushL l f s).length c, .bool (pushB l)]) ∧ Hid (Tl P w' (.slice p (pushL l f s).length c) (pushL l f s) ∧ Below w.heap.size w w') := by
  by_cases hf : 256 ≤ l.length
  · rw [show pushL l f s = l from if_pos hf, show pushB l = false from decide_eq_false (by omega)]
    obtain ⟨p, c, rfl, hc⟩ := h.shape
    have H := hid h
    have hz : (256 : Int) ≤ (l.length : Int) := by omega
    clear h
    go_enter Try.func26, Try.ntmps26
    go_wp2
    go_ret2
    exact ⟨p, c, rfl, H.out, Below.refl _ _⟩
  · rw [show pushB l = true from decide_eq_true (by omega)]
    have hz : ¬ (256 : Int) ≤ (l.length : Int) := by omega
    cases f with
    | true =>
      rw [show pushL l true s = s :: l by unfold pushL; rw [if_neg hf]; rfl]
      obtain ⟨v1, W1, r1, o1, b1⟩ := Own.app (B := w.heap.size) (W := w.alloc (.cells #[txt s] 9)) (v := .slice none 0 0) (l := []) (World.ownsRow_nil _ _ _ _) (by simp) (one_tl P w s (hp _ (Nat.le_refl _))) (by simp)
      have b01 := (below_alloc w (.cells #[txt s] 9)).trans b1
      obtain ⟨v2, W2, r2, o2, b2⟩ := Own.app (B := w.heap.size) (v := v1) (l := [] ++ [s]) o1 b01.size (h.below b01) (by simp; omega)
      have HT := hid (o2.tl (P := P) hp)
      have HB := hid (b01.trans b2)
      obtain ⟨p2, c2, rfl, -⟩ := o2.shape
      obtain ⟨p1, c1, rfl, -⟩ := o1.shape
      obtain ⟨p, c, rfl, -⟩ := h.shape
      have R1 := hid r1
      have R2 := hid r2
      clear r1 r2 o1 o2 b1 b2 b01 h hp
      simp only [List.nil_append, List.singleton_append] at R1 R2 HT
      simp only [List.length_cons, List.length_nil, Nat.zero_add] at R1 R2
      go_enter Try.func26, Try.ntmps26
      go_wp2_with (refine wpList_append_runs rfl _ _ 26 26 rfl _ _ _ _ rfl rfl R1.out (Hid.out ?_))
      refine hid ?_
      go_wp2_with (refine wpList_append_runs rfl _ _ 26 26 rfl _ _ _ _ rfl rfl R2.out (Hid.out ?_))
      refine hid ?_
      go_wp2_with fail
      go_ret2
      exact ⟨p2, c2, rfl, HT.out, HB.out⟩
    | false =>
      rw [show pushL l false s = l ++ [s] by unfold pushL; rw [if_neg hf]; rfl]
      obtain ⟨v1, W1, r1, o1, b1⟩ := Own.app (B := w.heap.size) (W := w) (v := .slice none 0 0) (l := []) (World.ownsRow_nil _ _ _ _) (Nat.le_refl _) h (by simp; omega)
      have b01 := below_alloc W1 (.cells #[txt s] 9)
      obtain ⟨v2, W2, r2, o2, b2⟩ := Own.app (B := w.heap.size) (v := v1) (l := [] ++ l) (owns_below o1 b01) (Nat.le_trans b1.size b01.size) (one_tl P W1 s (hp _ b1.size)) (by simp; omega)
      have HT := hid (o2.tl (P := P) hp)
      have HB := hid ((b1.trans (b01.mono b1.size)).trans b2)
      obtain ⟨p2, c2, rfl, -⟩ := o2.shape
      obtain ⟨p1, c1, rfl, -⟩ := o1.shape
      obtain ⟨p, c, rfl, -⟩ := h.shape
      have R1 := hid r1
      have R2 := hid r2
      clear r1 r2 o1 o2 b1 b2 b01 h hp
      simp only [List.nil_append] at R1 R2 HT
      simp only [List.length_append, List.length_singleton] at R1 R2 HT ⊢
      go_enter Try.func26, Try.ntmps26
      go_wp2_with (refine wpList_append_runs rfl _ _ 26 26 rfl _ _ _ _ rfl rfl R1.out (Hid.out ?_))
      refine hid ?_
      go_wp2_with (refine wpList_append_runs rfl _ _ 26 26 rfl _ _ _ _ rfl rfl R2.out (Hid.out ?_))
      refine hid ?_
      go_wp2_with fail
      go_ret2
      exact ⟨p2, c2, rfl, HT.out, HB.out⟩
theorem set_txt (l : Row) (k : Nat) (s : List UInt8) : (l.map txt).set k (txt s) = (l.set k s).map txt := by rw [List.map_set]
set_option maxHeartbeats 2000000 in
set_option maxRecDepth 100000 in
/-- ref Put -/
theorem rput_any (P : Nat → Prop) (v : Value) (l : Row) (i : Int) (s : List UInt8) (w : World) (h : Tl P w v l) (hp : ∀ k, w.heap.size ≤ k → P k) (hl : l.length ≤ 256) (i0 : -9223372036854775808 ≤ i) (i1 : i ≤ 9223372036854775807) :
    Calls Try.prog 29 #[v, .int .i64 i, txt s] w fun e w' => ∃ p c, e = .returned (.tuple #[.slice p l.length c, .bool (atB l i)]) ∧ Hid (Tl P w' (.slice p l.length c) (putL l i s) ∧ Below w.heap.size w w') := by
  obtain ⟨p, c, rfl, -⟩ := h.shape
  have HP := hid (rplace_any p l.length c i w (by omega) i0 i1)
  cases hs : spot l.length i with
  | none =>
    rw [show atB l i = false by unfold atB; rw [hs]; rfl, show putL l i s = l by unfold putL; rw [hs]]
    have hn := plcV_none hs
    have H := hid h
    generalize plcV l.length i = z at *
    clear h hs
    go_enter Try.func29, Try.ntmps29
    go_wp2_with fail
    refine HP.out.mono ?_; rintro e w1 ⟨rfl, rfl⟩
    go_wp2_with fail
    go_ret2
    exact ⟨p, c, rfl, H.out, Below.refl _ _⟩
  | some k =>
    rw [show atB l i = true by unfold atB; rw [hs]; rfl, show putL l i s = l.set k s by unfold putL; rw [hs]]
    have hk := (spot_lt hs).1
    rw [plcV_some hs] at HP
    obtain ⟨v1, W1, r1, o1, b1⟩ := Own.app (B := w.heap.size) (W := w.alloc (.cells #[] 9)) (v := .slice (some ⟨w.heap.size, 0, none⟩) 0 0) (l := []) (World.ownsRow_lit w #[] 0 (Nat.le_refl _) (by decide) rfl) (by simp) (h.below (below_alloc w _)) (by simp; omega)
    rw [List.nil_append] at o1
    obtain ⟨g, c1, rfl⟩ : ∃ g c1, v1 = .slice (some ⟨g, 0, none⟩) l.length c1 := by
      rcases o1.2 with ⟨_, h0⟩ | ⟨g, cap, cur, e, _⟩
      · omega
      · exact ⟨g, cap, e⟩
    have hgl := World.ownsRow.lt o1 g rfl
    have hx : W1.cell? ⟨g, k, none⟩ = some (txt l[k]) := by
      rw [World.ownsRow.cellAt o1 k (by omega)]
      simp [hk]
    have hfr := World.ownsRow.frozenAt o1 k
    obtain ⟨o2, b2⟩ := World.ownsRow.stored o1 k (txt s)
    rw [set_txt] at o2
    have o2' : Own w.heap.size (W1.setCell ⟨g, k, none⟩ (txt s)) (.slice (some ⟨g, 0, none⟩) l.length c1) (l.set k s) := by
      unfold Own; rw [List.length_set]; exact o2
    have HT := hid (o2'.tl (P := P) hp)
    have HB := hid (((below_alloc w (.cells #[] 9)).trans b1).setCell (p := ⟨g, k, none⟩) hgl.1 (txt s))
    have R1 := hid r1
    have hkz : (k : Int) < (l.length : Int) := by omega
    clear r1 o1 o2 o2' b1 b2 h hs hgl
    go_enter Try.func29, Try.ntmps29
    go_wp2_with fail
    refine HP.out.mono ?_; rintro e w1 ⟨rfl, rfl⟩
    go_wp2_with (refine wpList_append_runs rfl _ _ 26 26 rfl _ _ _ _ rfl rfl R1.out (Hid.out ?_))
    refine hid ?_
    go_wp2_with fail
    go_ret2
    exact ⟨_, c1, rfl, HT.out, HB.out⟩

end Go.Proofs.Ytmlnjcmkengkhaa
