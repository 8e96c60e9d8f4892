/- The document's row: what a call does, and what it tells: ref Do. -/
import Derived.Test.YtmlnjcmkengkhaaRefMake
namespace Go.Proofs.Ytmlnjcmkengkhaa
open Go.RowKit

/-- a call's value, and an answer's -/
abbrev opV (o : OpL) : Value := .agg #[.int .i64 o.kind, .int .i64 o.a, .int .i64 o.b, .bool o.front, txt o.s]
abbrev ansV (s : List UInt8) (b : Bool) (z : Value) : Value := .agg #[txt s, .bool b, z]
/-- what a call's cells can hold -/
structure OpFit (o : OpL) : Prop where
  k0 : -9223372036854775808 ≤ o.kind
  k1 : o.kind ≤ 9223372036854775807
  a0 : -9223372036854775808 ≤ o.a
  a1 : o.a ≤ 9223372036854775807
  b0 : -9223372036854775808 ≤ o.b
  b1 : o.b ≤ 9223372036854775807
theorem infoA (x y z : Value) : (Try.prog.info? 42).map (·.size) = some (#[x, y, z] : Array Value).size := by
  show _ = some 3
  kernel_rfl
theorem infoO (x y z u t : Value) : (Try.prog.info? 40).map (·.size) = some (#[x, y, z, u, t] : Array Value).size := by
  show _ = some 5
  kernel_rfl
theorem oneA (s : ByteArray) (b : Bool) (a : Option Addr) (m n : Nat) : (#[.string s, .bool b, .slice a m n] : Array Value).all (·.oneCell') = true := by simp [Value.oneCell']
theorem ret_do {fn : Func} {p q : Tmp} (h : fn.results = #[.tmp q, .cell p 42]) {tmps : Array Value} {w : World} {b : Nat} {x y z v : Value} (hp : tmps.getD p undef = .pointer (some ⟨b, 0, none⟩)) (hq : tmps.getD q undef = v) (hB : w.heap[b]? = some (.cells #[x, y, z] 42 (0, 0))) :
    (results fn tmps).run Try.prog w = .ok (.tuple #[v, .agg #[x, y, z]]) w := by
  have hp' : tmps[p]?.getD undef = .pointer (some ⟨b, 0, none⟩) := by simpa using hp
  have hq' : tmps[q]?.getD undef = v := by simpa using hq
  simp [results, h, hp', hq', asAddr, run_loadVar_row w b 42 42 #[x, y, z] (0, 0) _ hB Try.underlying42 rfl (infoA x y z)]
theorem Tl.fresh {P : Nat → Prop} {w : World} {v : Value} {l : Row} (h : Tl P w v l) : Tl (fun k => P k ∧ k < w.heap.size) w v l := by
  rcases h with h | ⟨g, o, c, h1, h2, h3, h4, h5⟩
  · exact .inl h
  · exact .inr ⟨g, o, c, h1, h2, ⟨h3, h4⟩, h4, h5⟩
theorem below_setRow {B : Nat} {a w : World} (h : Below B a w) {g : Nat} (hg : B ≤ g) (cs : Array Value) : Below B a (w.setRow g cs) :=
  h.trans ⟨rfl, rfl, rfl, by simp, fun k hk => setRow_other w g k cs (by omega)⟩
theorem keep_setRow (P : Nat → Prop) (w : World) (g : Nat) (cs : Array Value) : Keep (fun k => P k ∧ k ≠ g) w (w.setRow g cs) :=
  ⟨rfl, rfl, rfl, by simp, fun k _ hk => setRow_other w g k cs hk.2⟩
/-- the two blocks that Do and does begin with -/
abbrev boxed (w : World) (o : OpL) : World := (w.alloc (.cells #[.int .i64 o.kind, .int .i64 o.a, .int .i64 o.b, .bool o.front, txt o.s] 40)).alloc (.cells #[.string ⟨#[]⟩, .bool false, .slice none 0 0] 42)
theorem boxed_size (w : World) (o : OpL) : (boxed w o).heap.size = w.heap.size + 2 := by simp
theorem boxed_below (w : World) (o : OpL) : Below w.heap.size w (boxed w o) := ((Below.refl _ _).alloc (Nat.le_refl _) _).alloc (by simp) _
theorem boxed_ans (w : World) (o : OpL) : (boxed w o).heap[w.heap.size + 1]? = some (.cells #[.string ⟨#[]⟩, .bool false, .slice none 0 0] 42 (0, 0)) := by
  have := heap_alloc_new (w.alloc (.cells #[.int .i64 o.kind, .int .i64 o.a, .int .i64 o.b, .bool o.front, txt o.s] 40)) (.cells #[.string ⟨#[]⟩, .bool false, .slice none 0 0] 42)
  rwa [show (w.alloc (.cells #[.int .i64 o.kind, .int .i64 o.a, .int .i64 o.b, .bool o.front, txt o.s] 40)).heap.size = w.heap.size + 1 by simp] at this
theorem alloc2_drew (w : World) (x y : Obj) : ((w.alloc x).alloc y).drew.heap[w.heap.size + 1]? = some y := by
  have := heap_alloc_new (w.alloc x) y
  rwa [show (w.alloc x).heap.size = w.heap.size + 1 by simp] at this
theorem alloc2_below (w : World) (x y : Obj) : Below w.heap.size w ((w.alloc x).alloc y) := ((Below.refl _ _).alloc (Nat.le_refl _) _).alloc (by simp) _
/-- the row, ahead of Do's calls -/
theorem boxed_tl {P : Nat → Prop} {w : World} {v : Value} {l : Row} (h : Tl P w v l) (o : OpL) : Tl (fun k => P k ∧ k ≠ w.heap.size + 1) (boxed w o) v l :=
  (h.fresh.below (boxed_below w o)).mono (fun i hi => ⟨hi.1, by omega⟩)
theorem boxed_new {P : Nat → Prop} {w : World} (hp : ∀ k, w.heap.size ≤ k → P k) (o : OpL) : ∀ k, (boxed w o).heap.size ≤ k → P k ∧ k ≠ w.heap.size + 1 := fun k hk => by
  rw [boxed_size] at hk
  exact ⟨hp k (by omega), by omega⟩
set_option maxHeartbeats 2000000 in
set_option maxRecDepth 100000 in
theorem do_push (P : Nat → Prop) (v : Value) (l : Row) (o : OpL) (hk : o.kind = 0) (w : World) (h : Tl P w v l) (hp : ∀ k, w.heap.size ≤ k → P k) (hl : l.length ≤ 256) :
    Calls Try.prog 20 #[v, opV o] w fun e w' => ∃ p c q d, e = .returned (.tuple #[.slice p (doR l o).length c, ansV (doA l o).s (doA l o).is (.slice q (doA l o).list.length d)]) ∧ Hid (Tl P w' (.slice p (doR l o).length c) (doR l o) ∧ Tl P w' (.slice q (doA l o).list.length d) (doA l o).list ∧ Below w.heap.size w w') := by
  rw [show doR l o = pushL l o.front o.s by simp [doR, hk], show doA l o = ⟨[], pushB l, []⟩ by simp [doA, hk]]
  have HP := hid (rpush_any _ v l o.front o.s (boxed w o) (boxed_tl h o) (boxed_new hp o) hl)
  have HA := hid (boxed_ans w o)
  have HS := hid (boxed_size w o)
  have HBX := hid (boxed_below w o)
  obtain ⟨p0, c0, rfl, -⟩ := h.shape
  obtain ⟨kind, a, b, front, s⟩ := o
  simp only at hk HP HA HS HBX ⊢
  subst hk
  generalize pushL l front s = L at *
  generalize pushB l = PB at *
  clear h hp
  go_enter Try.func20, Try.ntmps20
  go_wp2_with fail
  refine HP.out.mono ?_; rintro e w3 ⟨p, c, rfl, hh⟩
  have HH := hid hh.out
  have HA3 := hid ((hh.out.2.block (w.heap.size + 1) (by have := HS.out; omega)).trans HA.out)
  have HB3 := hid (HBX.out.trans (hh.out.2.mono HBX.out.size))
  clear hh
  go_wp2_with (refine wpList_store_row rfl 42 _ _ rfl (w.heap.size + 1) #[txt [], .bool PB, .slice none 0 0] rfl rfl 42 _ HA3.out (infoA _ _ _) rfl (oneA _ _ _ _ _) ?_)
  refine bodyPost_ret (v := .tuple #[.slice p L.length c, ansV [] PB (.slice none 0 0)]) ?_ rfl ?_
  · exact ret_do rfl rfl rfl (setRow_heap w3 _ _ _ _ _ HA3.out)
  · exact ⟨p, c, none, 0, rfl, HH.out.1.keep (keep_setRow P w3 (w.heap.size + 1) _) (fun _ h => h.1), Tl.nil _ _, below_setRow HB3.out (by omega) _⟩
set_option maxHeartbeats 2000000 in
set_option maxRecDepth 100000 in
theorem do_pop (P : Nat → Prop) (v : Value) (l : Row) (o : OpL) (hF : OpFit o) (hk : o.kind = 1) (w : World) (h : Tl P w v l) (_hp : ∀ k, w.heap.size ≤ k → P k) (hl : l.length ≤ 256) :
    Calls Try.prog 20 #[v, opV o] w fun e w' => ∃ p c q d, e = .returned (.tuple #[.slice p (doR l o).length c, ansV (doA l o).s (doA l o).is (.slice q (doA l o).list.length d)]) ∧ Hid (Tl P w' (.slice p (doR l o).length c) (doR l o) ∧ Tl P w' (.slice q (doA l o).list.length d) (doA l o).list ∧ Below w.heap.size w w') := by
  rw [show doR l o = popL l o.front by simp [doR, hk], show doA l o = ⟨popS l o.front, popB l, []⟩ by simp [doA, hk]]
  have HP := hid (rpop_any _ v l o.front (boxed w o) (boxed_tl h o) hl)
  have HA := hid (boxed_ans w o)
  have HS := hid (boxed_size w o)
  have HBX := hid (boxed_below w o)
  obtain ⟨p0, c0, rfl, -⟩ := h.shape
  obtain ⟨kind, a, b, front, s⟩ := o
  simp only at hk HP HA HS HBX ⊢
  subst hk
  generalize popL l front = L at *
  generalize popS l front = PS at *
  generalize popB l = PB at *
  clear h hF
  go_enter Try.func20, Try.ntmps20
  go_wp2_with fail
  refine HP.out.mono ?_; rintro e w3 ⟨u, rfl, hh⟩
  obtain ⟨p, c, rfl, -⟩ := hh.out.1.shape
  have HH := hid hh.out
  have HA3 := hid ((hh.out.2.block (w.heap.size + 1) (by have := HS.out; omega)).trans HA.out)
  have HB3 := hid (HBX.out.trans (hh.out.2.mono HBX.out.size))
  clear hh
  go_wp2_with (refine wpList_store_row rfl 42 _ _ rfl (w.heap.size + 1) #[txt PS, .bool PB, .slice none 0 0] rfl rfl 42 _ HA3.out (infoA _ _ _) rfl (oneA _ _ _ _ _) ?_)
  refine bodyPost_ret (v := .tuple #[.slice p L.length c, ansV PS PB (.slice none 0 0)]) ?_ rfl ?_
  · exact ret_do rfl rfl rfl (setRow_heap w3 _ _ _ _ _ HA3.out)
  · exact ⟨_, _, _, _, rfl, HH.out.1.keep (keep_setRow P w3 (w.heap.size + 1) _) (fun _ h => h.1), Tl.nil _ _, below_setRow HB3.out (by omega) _⟩
set_option maxHeartbeats 2000000 in
set_option maxRecDepth 100000 in
theorem do_put (P : Nat → Prop) (v : Value) (l : Row) (o : OpL) (hF : OpFit o) (hk : o.kind = 3) (w : World) (h : Tl P w v l) (hp : ∀ k, w.heap.size ≤ k → P k) (hl : l.length ≤ 256) :
    Calls Try.prog 20 #[v, opV o] w fun e w' => ∃ p c q d, e = .returned (.tuple #[.slice p (doR l o).length c, ansV (doA l o).s (doA l o).is (.slice q (doA l o).list.length d)]) ∧ Hid (Tl P w' (.slice p (doR l o).length c) (doR l o) ∧ Tl P w' (.slice q (doA l o).list.length d) (doA l o).list ∧ Below w.heap.size w w') := by
  rw [show doR l o = putL l o.a o.s by simp [doR, hk], show doA l o = ⟨[], atB l o.a, []⟩ by simp [doA, hk]]
  have HP := hid (rput_any _ v l o.a o.s (boxed w o) (boxed_tl h o) (boxed_new hp o) hl hF.a0 hF.a1)
  have hlen := putL_len l o.a o.s
  have HA := hid (boxed_ans w o)
  have HS := hid (boxed_size w o)
  have HBX := hid (boxed_below w o)
  obtain ⟨p0, c0, rfl, -⟩ := h.shape
  obtain ⟨kind, a, b, front, s⟩ := o
  simp only at hk HP HA HS HBX ⊢
  subst hk
  simp only at hlen
  rw [hlen]
  generalize putL l a s = L at *
  generalize atB l a = PB at *
  clear h hp hF
  go_enter Try.func20, Try.ntmps20
  go_wp2_with fail
  refine HP.out.mono ?_; rintro e w3 ⟨p, c, rfl, hh⟩
  have HH := hid hh.out
  have HA3 := hid ((hh.out.2.block (w.heap.size + 1) (by have := HS.out; omega)).trans HA.out)
  have HB3 := hid (HBX.out.trans (hh.out.2.mono HBX.out.size))
  clear hh
  go_wp2_with (refine wpList_store_row rfl 42 _ _ rfl (w.heap.size + 1) #[txt [], .bool PB, .slice none 0 0] rfl rfl 42 _ HA3.out (infoA _ _ _) rfl (oneA _ _ _ _ _) ?_)
  refine bodyPost_ret (v := .tuple #[.slice p l.length c, ansV [] PB (.slice none 0 0)]) ?_ rfl ?_
  · exact ret_do rfl rfl rfl (setRow_heap w3 _ _ _ _ _ HA3.out)
  · exact ⟨_, _, _, _, rfl, HH.out.1.keep (keep_setRow P w3 (w.heap.size + 1) _) (fun _ h => h.1), Tl.nil _ _, below_setRow HB3.out (by omega) _⟩
set_option maxHeartbeats 2000000 in
set_option maxRecDepth 100000 in
theorem do_range (P : Nat → Prop) (v : Value) (l : Row) (o : OpL) (hF : OpFit o) (hk : o.kind = 4) (w : World) (h : Tl P w v l) (_hp : ∀ k, w.heap.size ≤ k → P k) (hl : l.length ≤ 256) :
    Calls Try.prog 20 #[v, opV o] w fun e w' => ∃ p c q d, e = .returned (.tuple #[.slice p (doR l o).length c, ansV (doA l o).s (doA l o).is (.slice q (doA l o).list.length d)]) ∧ Hid (Tl P w' (.slice p (doR l o).length c) (doR l o) ∧ Tl P w' (.slice q (doA l o).list.length d) (doA l o).list ∧ Below w.heap.size w w') := by
  rw [show doR l o = l by simp [doR, hk], show doA l o = ⟨[], false, rangeL l o.a o.b⟩ by simp [doA, hk]]
  have HP := hid (rrange_any _ v l o.a o.b (boxed w o) (boxed_tl h o) hl hF.a0 hF.a1 hF.b0 hF.b1)
  have HA := hid (boxed_ans w o)
  have HS := hid (boxed_size w o)
  have HBX := hid (boxed_below w o)
  have HV := hid (boxed_tl h o)
  obtain ⟨p0, c0, rfl, -⟩ := h.shape
  obtain ⟨kind, a, b, front, s⟩ := o
  simp only at hk HP HA HS HBX HV ⊢
  subst hk
  generalize rangeL l a b = L at *
  clear h hF
  go_enter Try.func20, Try.ntmps20
  go_wp2_with fail
  refine HP.out.mono ?_; rintro e w3 ⟨p, c, rfl, hh, rfl⟩
  go_wp2_with (refine wpList_store_row rfl 42 _ _ rfl (w.heap.size + 1) #[txt [], .bool false, .slice p L.length c] rfl rfl 42 _ HA.out (infoA _ _ _) rfl (oneA _ _ _ _ _) ?_)
  refine bodyPost_ret (v := .tuple #[.slice p0 l.length c0, ansV [] false (.slice p L.length c)]) ?_ rfl ?_
  · exact ret_do rfl rfl rfl (setRow_heap _ _ _ _ _ _ HA.out)
  · exact ⟨_, _, _, _, rfl, HV.out.keep (keep_setRow P _ (w.heap.size + 1) _) (fun _ h => h.1), hh.out.keep (keep_setRow P _ (w.heap.size + 1) _) (fun _ h => h.1), below_setRow HBX.out (by omega) _⟩
set_option maxHeartbeats 2000000 in
set_option maxRecDepth 100000 in
theorem do_trim (P : Nat → Prop) (v : Value) (l : Row) (o : OpL) (hF : OpFit o) (hk : o.kind = 5) (w : World) (h : Tl P w v l) (_hp : ∀ k, w.heap.size ≤ k → P k) (hl : l.length ≤ 256) :
    Calls Try.prog 20 #[v, opV o] w fun e w' => ∃ p c q d, e = .returned (.tuple #[.slice p (doR l o).length c, ansV (doA l o).s (doA l o).is (.slice q (doA l o).list.length d)]) ∧ Hid (Tl P w' (.slice p (doR l o).length c) (doR l o) ∧ Tl P w' (.slice q (doA l o).list.length d) (doA l o).list ∧ Below w.heap.size w w') := by
  rw [show doR l o = rangeL l o.a o.b by simp [doR, hk], show doA l o = ⟨[], false, []⟩ by simp [doA, hk]]
  have HP := hid (rrange_any _ v l o.a o.b (boxed w o) (boxed_tl h o) hl hF.a0 hF.a1 hF.b0 hF.b1)
  have HA := hid (boxed_ans w o)
  have HS := hid (boxed_size w o)
  have HBX := hid (boxed_below w o)
  have HV := hid (boxed_tl h o)
  obtain ⟨p0, c0, rfl, -⟩ := h.shape
  obtain ⟨kind, a, b, front, s⟩ := o
  simp only at hk HP HA HS HBX HV ⊢
  subst hk
  generalize rangeL l a b = L at *
  clear h hF
  go_enter Try.func20, Try.ntmps20
  go_wp2_with fail
  refine HP.out.mono ?_; rintro e w3 ⟨p, c, rfl, hh, rfl⟩
  go_wp2_with (refine wpList_store_row rfl 42 _ _ rfl (w.heap.size + 1) #[txt [], .bool false, .slice none 0 0] rfl rfl 42 _ HA.out (infoA _ _ _) rfl (oneA _ _ _ _ _) ?_)
  refine bodyPost_ret (v := .tuple #[.slice p L.length c, ansV [] false (.slice none 0 0)]) ?_ rfl ?_
  · exact ret_do rfl rfl rfl (setRow_heap _ _ _ _ _ _ HA.out)
  · exact ⟨_, _, _, _, rfl, hh.out.keep (keep_setRow P _ (w.heap.size + 1) _) (fun _ h => h.1), Tl.nil _ _, below_setRow HBX.out (by omega) _⟩
set_option maxHeartbeats 2000000 in
set_option maxRecDepth 100000 in
theorem do_other (P : Nat → Prop) (v : Value) (l : Row) (o : OpL) (hF : OpFit o) (h0 : o.kind ≠ 0) (h1 : o.kind ≠ 1) (h2 : o.kind ≠ 2) (h3 : o.kind ≠ 3) (h4 : o.kind ≠ 4) (h5 : o.kind ≠ 5) (w : World) (h : Tl P w v l) (_hp : ∀ k, w.heap.size ≤ k → P k) (_hl : l.length ≤ 256) :
    Calls Try.prog 20 #[v, opV o] w fun e w' => ∃ p c q d, e = .returned (.tuple #[.slice p (doR l o).length c, ansV (doA l o).s (doA l o).is (.slice q (doA l o).list.length d)]) ∧ Hid (Tl P w' (.slice p (doR l o).length c) (doR l o) ∧ Tl P w' (.slice q (doA l o).list.length d) (doA l o).list ∧ Below w.heap.size w w') := by
  rw [show doR l o = l by simp [doR, h0, h1, h3, h5], show doA l o = ⟨[], false, []⟩ by simp [doA, h0, h1, h2, h3, h4]]
  have HA := hid (boxed_ans w o)
  have HS := hid (boxed_size w o)
  have HBX := hid (boxed_below w o)
  have HV := hid (boxed_tl h o)
  obtain ⟨p0, c0, rfl, -⟩ := h.shape
  have e0 : (o.kind == 0) = false := beq_eq_false_iff_ne.2 h0
  have e1 : (o.kind == 1) = false := beq_eq_false_iff_ne.2 h1
  have e2 : (o.kind == 2) = false := beq_eq_false_iff_ne.2 h2
  have e3 : (o.kind == 3) = false := beq_eq_false_iff_ne.2 h3
  have e4 : (o.kind == 4) = false := beq_eq_false_iff_ne.2 h4
  have e5 : (o.kind == 5) = false := beq_eq_false_iff_ne.2 h5
  obtain ⟨kind, a, b, front, s⟩ := o
  simp only at e0 e1 e2 e3 e4 e5 HA HS HBX HV ⊢
  clear h hF h0 h1 h2 h3 h4 h5
  go_enter Try.func20, Try.ntmps20
  go_wp2_with (refine wpList_store_row rfl 42 _ _ rfl (w.heap.size + 1) #[txt [], .bool false, .slice none 0 0] rfl rfl 42 _ HA.out (infoA _ _ _) rfl (oneA _ _ _ _ _) ?_)
  refine bodyPost_ret (v := .tuple #[.slice p0 l.length c0, ansV [] false (.slice none 0 0)]) ?_ rfl ?_
  · exact ret_do rfl rfl rfl (setRow_heap _ _ _ _ _ _ HA.out)
  · exact ⟨_, _, _, _, rfl, HV.out.keep (keep_setRow P _ (w.heap.size + 1) _) (fun _ h => h.1), Tl.nil _ _, below_setRow HBX.out (by omega) _⟩
set_option maxHeartbeats 2000000 in
set_option maxRecDepth 100000 in
theorem do_at (P : Nat → Prop) (v : Value) (l : Row) (o : OpL) (hF : OpFit o) (hk : o.kind = 2) (w : World) (h : Tl P w v l) (_hp : ∀ k, w.heap.size ≤ k → P k) (hl : l.length ≤ 256) :
    Calls Try.prog 20 #[v, opV o] w fun e w' => ∃ p c q d, e = .returned (.tuple #[.slice p (doR l o).length c, ansV (doA l o).s (doA l o).is (.slice q (doA l o).list.length d)]) ∧ Hid (Tl P w' (.slice p (doR l o).length c) (doR l o) ∧ Tl P w' (.slice q (doA l o).list.length d) (doA l o).list ∧ Below w.heap.size w w') := by
  rw [show doR l o = l by simp [doR, hk], show doA l o = ⟨atS l o.a, atB l o.a, []⟩ by simp [doA, hk]]
  have HA := hid (boxed_ans w o)
  have HS := hid (boxed_size w o)
  have HBX := hid (boxed_below w o)
  have HV := hid (boxed_tl h o)
  obtain ⟨p0, c0, rfl, -⟩ := h.shape
  have HP := hid (rplace_any p0 l.length c0 o.a (boxed w o) (by omega) hF.a0 hF.a1)
  cases hs : spot l.length o.a with
  | none =>
    rw [show atS l o.a = [] by unfold atS; rw [hs], show atB l o.a = false by unfold atB; rw [hs]; rfl]
    have hn := plcV_none hs
    obtain ⟨kind, a, b, front, s⟩ := o
    simp only at hk HP HA HS HBX HV hn hs ⊢
    subst hk
    generalize plcV l.length a = z at *
    clear h hF hs
    go_enter Try.func20, Try.ntmps20
    go_wp2_with fail
    refine HP.out.mono ?_; rintro e w3 ⟨rfl, rfl⟩
    go_wp2_with (refine wpList_store_row rfl 42 _ _ rfl (w.heap.size + 1) #[txt [], .bool false, .slice none 0 0] rfl rfl 42 _ HA.out (infoA _ _ _) rfl (oneA _ _ _ _ _) ?_)
    refine bodyPost_ret (v := .tuple #[.slice p0 l.length c0, ansV [] false (.slice none 0 0)]) ?_ rfl ?_
    · exact ret_do rfl rfl rfl (setRow_heap _ _ _ _ _ _ HA.out)
    · exact ⟨_, _, _, _, rfl, HV.out.keep (keep_setRow P _ (w.heap.size + 1) _) (fun _ h => h.1), Tl.nil _ _, below_setRow HBX.out (by omega) _⟩
  | some k =>
    have hkl := (spot_lt hs).1
    rw [show atS l o.a = l[k] by unfold atS; rw [hs]; simp [hkl], show atB l o.a = true by unfold atB; rw [hs]; rfl]
    rw [plcV_some hs] at HP
    obtain ⟨g, o2, rfl, hg, -, hcell⟩ := h.cells k hkl
    have hx : (boxed w o).cell? ⟨g, o2 + k, none⟩ = some (txt l[k]) := cell_turn (hcell k hkl) ((boxed_below w o).block g hg)
    have hkz : (k : Int) < (l.length : Int) := by omega
    obtain ⟨kind, a, b, front, s⟩ := o
    simp only at hk HP HA HS HBX HV hs hx ⊢
    subst hk
    have H0 := hid h
    generalize l[k] = t at *
    clear h hF hs hcell
    go_enter Try.func20, Try.ntmps20
    go_wp2_with fail
    refine HP.out.mono ?_; rintro e w3 ⟨rfl, rfl⟩
    go_wp2_with fail
    go_region
    all_goals go_wp2_with fail
    all_goals refine bodyPost_ret (v := .tuple #[.slice (some ⟨g, o2, none⟩) l.length c0, ansV t true (.slice none 0 0)]) ?_ rfl ?_
    · exact ret_do rfl rfl rfl (alloc2_drew w _ _)
    · exact ⟨_, _, _, _, rfl, H0.out.below (alloc2_below w _ _).drew, Tl.nil _ _, (alloc2_below w _ _).drew⟩
/-- ref Do -/
theorem do_any (P : Nat → Prop) (v : Value) (l : Row) (o : OpL) (hF : OpFit o) (w : World) (h : Tl P w v l) (hp : ∀ k, w.heap.size ≤ k → P k) (hl : l.length ≤ 256) :
    Calls Try.prog 20 #[v, opV o] w fun e w' => ∃ p c q d, e = .returned (.tuple #[.slice p (doR l o).length c, ansV (doA l o).s (doA l o).is (.slice q (doA l o).list.length d)]) ∧ Hid (Tl P w' (.slice p (doR l o).length c) (doR l o) ∧ Tl P w' (.slice q (doA l o).list.length d) (doA l o).list ∧ Below w.heap.size w w') := by
  by_cases h0 : o.kind = 0
  · exact do_push P v l o h0 w h hp hl
  by_cases h1 : o.kind = 1
  · exact do_pop P v l o hF h1 w h hp hl
  by_cases h2 : o.kind = 2
  · exact do_at P v l o hF h2 w h hp hl
  by_cases h3 : o.kind = 3
  · exact do_put P v l o hF h3 w h hp hl
  by_cases h4 : o.kind = 4
  · exact do_range P v l o hF h4 w h hp hl
  by_cases h5 : o.kind = 5
  · exact do_trim P v l o hF h5 w h hp hl
  exact do_other P v l o hF h0 h1 h2 h3 h4 h5 w h hp hl

end Go.Proofs.Ytmlnjcmkengkhaa
