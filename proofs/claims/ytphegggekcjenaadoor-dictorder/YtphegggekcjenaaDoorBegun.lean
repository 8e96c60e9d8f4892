/- A dict behind calls, and the document's: the law's begun. -/
import Derived.Test.YtphegggekcjenaaDoorDoes
namespace Go.Proofs.YtphegggekcjenaaDoor
open Go.RowKit

/-- where calls lie -/
def OpsI (w : World) (p : Option Addr) (l : List OpI) : Prop := l ≠ [] → ∃ g o, p = some ⟨g, o, none⟩ ∧ ∀ i (h : i < l.length), w.cell? ⟨g, o + i * 3, none⟩ = some (.int .i64 l[i].kind) ∧ w.cell? ⟨g, o + i * 3 + 1, none⟩ = some (.int .i64 l[i].v) ∧ w.cell? ⟨g, o + i * 3 + 2, none⟩ = some (txt l[i].name)
def runD (D : DM Int) (os : List OpI) : DM Int := os.foldl doD D
theorem runD_take {D : DM Int} {ops : List OpI} {i : Nat} (h : i < ops.length) : runD D (ops.take (i + 1)) = doD (runD D (ops.take i)) ops[i] := by
  unfold runD
  rw [List.take_succ_eq_append_getElem h, List.foldl_append]
  rfl
theorem Small.do {k : Nat} {D : DM Int} (h : Small k D) (o : OpI) : Small (k + 1) (doD D o) := by
  unfold doD
  split
  · exact h.put _ _
  · split
    · exact (h.del _).mono (by omega)
    · split
      · exact h.step.mono (by omega)
      · exact h.mono (by omega)
theorem small_run (ops : List OpI) : ∀ i, i ≤ ops.length → Small i (runD newD (ops.take i))
  | 0, _ => Small.new
  | i + 1, h => by rw [runD_take (by omega)]; exact (small_run ops i (by omega)).do _
theorem ret_beg {fn : Func} {p q s : Tmp} (h : fn.results = #[.tmp q, .cell p 26, .tmp s]) {tmps : Array Value} {w : World} {b : Nat} {x y z v v' : Value} (hp : tmps.getD p undef = .pointer (some ⟨b, 0, none⟩)) (hq : tmps.getD q undef = v) (hs : tmps.getD s undef = v') (hB : w.heap[b]? = some (.cells #[x, y, z] 26 (0, 0))) :
    (results fn tmps).run Tryd.prog w = .ok (.tuple #[v, .agg #[x, y, z], v']) w := by
  have hp' : tmps[p]?.getD undef = .pointer (some ⟨b, 0, none⟩) := by simpa using hp
  have hq' : tmps[q]?.getD undef = v := by simpa using hq
  have hs' : tmps[s]?.getD undef = v' := by simpa using hs
  simp [results, h, hp', hq', hs', asAddr, run_loadVar_row w b 26 26 #[x, y, z] (0, 0) _ hB Tryd.underlying26 rfl (infoRD x y z)]
theorem set3_other (w : World) (n : Nat) (x y z : Value) (k : Nat) (hk : k ≠ n) : (((w.setCell ⟨n, 0, none⟩ x).setCell ⟨n, 1, none⟩ y).setCell ⟨n, 2, none⟩ z).heap[k]? = w.heap[k]? := by
  rw [heap_setCell_other _ _ _ _ (by simpa using hk), heap_setCell_other _ _ _ _ (by simpa using hk), heap_setCell_other _ _ _ _ (by simpa using hk)]
theorem set3_same (w : World) (n : Nat) (x y z a b c : Value) (h : w.heap[n]? = some (.cells #[a, b, c] 26 (0, 0))) : (((w.setCell ⟨n, 0, none⟩ x).setCell ⟨n, 1, none⟩ y).setCell ⟨n, 2, none⟩ z).heap[n]? = some (.cells #[x, y, z] 26 (0, 0)) :=
  heap_setCell_same _ n 2 _ _ _ (heap_setCell_same _ n 1 _ _ _ (heap_setCell_same _ n 0 _ _ _ h))
/-- a row of names and numbers apart from a block that is set -/
theorem It.set3 {P : Nat → Prop} {w : World} {v : Value} {l : Its Int} (h : It P w v l) (n : Nat) (hn : ∀ j, P j → j ≠ n) (x y z : Value) : It P (((w.setCell ⟨n, 0, none⟩ x).setCell ⟨n, 1, none⟩ y).setCell ⟨n, 2, none⟩ z) v l :=
  h.keep (Q := P) ⟨rfl, rfl, rfl, by simp, fun k _ hk => set3_other w n x y z k (hn k hk)⟩ (fun _ h => h)
set_option maxHeartbeats 4000000 in
set_option maxRecDepth 100000 in
/-- begun, with as many calls as it takes -/
theorem begun_any {V : World → Prop} {B : Nat} {Dq : World → Nat → (Nat → Prop) → DM Int → Prop} (M : MethI V B Dq) (p : Option Addr) (ops : List OpI) (cp : Nat) (w : World) (hV : V w) (hB : B ≤ w.heap.size) (hO : OpsI w p ops) (hN : ∀ o ∈ ops, o.name.length ≤ 140737488351232) (hn : ops.length ≤ 600) :
    Calls Tryd.prog 9 #[.slice p ops.length cp] w fun e w' => ∃ b q d, e = .returned (.tuple #[ptr b, rdV (.slice q (runD newD ops).L.length d) (runD newD ops).rooms (runD newD ops).left, .bool true]) ∧
      Hid (∃ O, Dq w' b O (runD newD ops) ∧ (∀ k, O k → w.heap.size ≤ k) ∧ It (Off O) w' (.slice q (runD newD ops).L.length d) (runD newD ops).L ∧ Below w.heap.size w w') := by
  have HM := hid M
  have HO := hid hO
  have HNL := hid hN
  have hz : ¬ (600 : Int) < (ops.length : Int) := by omega
  have HN := hid (M.new (w.alloc (.cells #[.slice none 0 0, .int .i64 0, .int .i64 0] 26)) (M.envB hV hB hB (below_alloc w _)) (by simp; omega))
  have H0 := hid (heap_alloc_new w (.cells #[.slice none 0 0, .int .i64 0, .int .i64 0] 26))
  have HB0 := hid (below_alloc w (.cells #[.slice none 0 0, .int .i64 0, .int .i64 0] 26))
  have HZ0 : Hid ((w.alloc (.cells #[.slice none 0 0, .int .i64 0, .int .i64 0] 26)).heap.size = w.heap.size + 1) := by simp [Hid]
  have HSm := hid (small_run ops)
  clear M hO hV hN
  go_enter Tryd.func9, Tryd.ntmps9
  go_wp2_with fail
  refine HN.out.mono ?_; rintro e w1 ⟨b, rfl, hh⟩
  obtain ⟨O0, hO0⟩ := hh.out
  have H1 := hid hO0
  clear hh hO0
  go_wp2_with fail
  refine (rnew_any w1).mono ?_; rintro e w2 ⟨rfl, hb2⟩
  have hw12 := hb2.out.size
  have hw01 : w.heap.size + 1 ≤ w1.heap.size := by have := H1.out.2.2.size; have := HZ0.out; omega
  have HB3 := hid (hb2.out.trans ((below_alloc w2 (.cells #[.slice none 0 0, .int .i64 4, .int .i64 0] 26)).mono hw12))
  have HR3 := hid (heap_alloc_new w2 (.cells #[.slice none 0 0, .int .i64 4, .int .i64 0] 26))
  have HD3 := hid (HM.out.below H1.out.1 HB3.out)
  have H03 := hid ((HB3.out.block w.heap.size (by omega)).trans ((H1.out.2.2.block w.heap.size (by have := HZ0.out; omega)).trans H0.out))
  have HK3 := hid ((HB0.out.trans (H1.out.2.2.mono (by have := HZ0.out; omega))).trans (HB3.out.mono (by omega)))
  have HO3 : Hid (∀ k, O0 k → w.heap.size < k ∧ k ≠ w2.heap.size) := fun k hk => ⟨by have := H1.out.2.1 k hk; have := HZ0.out; omega, by have := HM.out.lt H1.out.1 k hk; omega⟩
  have HZ3 : Hid ((w2.alloc (.cells #[.slice none 0 0, .int .i64 4, .int .i64 0] 26)).heap.size = w2.heap.size + 1) := by simp [Hid]
  clear hb2
  go_wp2_with fail
  generalize w2.alloc (.cells #[.slice none 0 0, .int .i64 4, .int .i64 0] 26) = W3 at *
  go_loopw [8, 9, 10, 25] (fun _ _ _ v25 W => ∃ (i : Nat) (q : Option Addr) (d : Nat), v25 = .int .i64 i ∧ i ≤ ops.length ∧ Hid (W.heap[w2.heap.size]? = some (.cells #[.slice q (runD newD (ops.take i)).L.length d, .int .i64 (runD newD (ops.take i)).rooms, .int .i64 (runD newD (ops.take i)).left] 26 (0, 0))) ∧ Hid (W.heap[w.heap.size]? = some (.cells #[.slice none 0 0, .int .i64 0, .int .i64 0] 26 (0, 0))) ∧
    Hid (∃ O, Dq W b O (runD newD (ops.take i)) ∧ (∀ k, O k → w.heap.size < k ∧ k ≠ w2.heap.size) ∧ It (fun j => ¬ O j ∧ (j ≠ w2.heap.size ∧ j ≠ w.heap.size)) W (.slice q (runD newD (ops.take i)).L.length d) (runD newD (ops.take i)).L) ∧ Hid (Below w.heap.size w W)) (fun _ _ _ v25 _ => ops.length - (intOf v25).toNat)
  case atStart => exact ⟨0, none, 0, rfl, Nat.zero_le _, HR3.out, H03.out, ⟨O0, HD3.out, HO3.out, It.nil _ _⟩, HK3.out⟩
  case round =>
    obtain ⟨i, q, d, rfl, hi, HRr, HR0, HDD, HW⟩ := hrel
    obtain ⟨O, hDO⟩ := HDD.out
    have HDO := hid hDO
    have hnr : w2.heap.size < wr.heap.size := (Array.getElem?_eq_some_iff.1 HRr.out).1
    clear hDO HDD
    by_cases hlt : i < ops.length
    · have hlz : (i : Int) < (ops.length : Int) := by omega
      obtain ⟨g, o, rfl, hcs⟩ := HO.out (fun e => by rw [e] at hlt; simp at hlt)
      have hgl := block_lt_of_cell (hcs i hlt).1
      have x0 := cell_turn (hcs i hlt).1 (HW.out.block g hgl)
      have x1 := cell_turn (hcs i hlt).2.1 (HW.out.block g hgl)
      have x2 := cell_turn (hcs i hlt).2.2 (HW.out.block g hgl)
      have HNx := hid (runD_take (D := newD) hlt)
      have HSi := hid ((HSm.out i (by omega)).mono (show i ≤ 100000 by omega))
      obtain ⟨⟨y0, y1, y2⟩, -⟩ := rd_facts HRr.out
      have HNi := hid (HNL.out _ (List.getElem_mem hlt))
      generalize ops[i] = op at *
      generalize runD newD (ops.take i) = Di at *
      clear hcs
      have HB1 := hid (below_alloc wr (.cells #[.int .i64 op.kind, .int .i64 op.v, txt op.name] 35))
      have HRr1 := hid ((heap_alloc_old wr (.cells #[.int .i64 op.kind, .int .i64 op.v, txt op.name] 35) hnr).trans HRr.out)
      go_wp2_with (refine wpList_load_row rfl 26 _ rfl w2.heap.size rfl 26 _ (0, 0) _ HRr1.out Tryd.underlying26 rfl (infoRD _ _ _) (Hid.out ?_))
      refine hid ?_
      go_wp2_with fail
      refine (does_any HM.out b O (fun j => j ≠ w2.heap.size ∧ j ≠ w.heap.size) Di _ op _ (HM.out.below HDO.out.1 HB1.out) (HDO.out.2.2.below HB1.out) (fun j hj => by have := HW.out.size; simp at hj; exact ⟨by omega, by omega⟩) HSi.out HNi.out).mono ?_
      rintro e w5 ⟨q', d', rfl, hh⟩
      obtain ⟨O', hQ1, hQ2, hQ3, hQ4⟩ := hh.out
      have e1 : (wr.alloc (.cells #[.int .i64 op.kind, .int .i64 op.v, txt op.name] 35)).heap.size = wr.heap.size + 1 := by simp
      have hs5 : wr.heap.size + 1 ≤ w5.heap.size := by have := hQ4.size; omega
      have hn2 : w.heap.size < w2.heap.size := by omega
      have hr5 := (hQ4.block w2.heap.size (by omega) (fun h => (HDO.out.2.1 _ h).2 rfl)).trans HRr1.out
      have h05 := (hQ4.block w.heap.size (by omega) (fun h => by have := (HDO.out.2.1 _ h).1; omega)).trans ((heap_alloc_old wr (.cells #[.int .i64 op.kind, .int .i64 op.v, txt op.name] 35) (by omega)).trans HR0.out)
      rw [← HNx.out] at hQ1 hQ2 ⊢
      have HSq := hid hQ1
      generalize hD' : runD newD (ops.take (i + 1)) = D' at *
      have HD' := hid hD'
      clear hD'
      have HR6 := hid ((heap_alloc_old w5 (.cells #[.slice q' D'.L.length d', .int .i64 D'.rooms, .int .i64 D'.left] 26) (show w2.heap.size < w5.heap.size by omega)).trans hr5)
      have H06 := hid ((heap_alloc_old w5 (.cells #[.slice q' D'.L.length d', .int .i64 D'.rooms, .int .i64 D'.left] 26) (show w.heap.size < w5.heap.size by omega)).trans h05)
      obtain ⟨⟨m0, m1, m2⟩, s0, s1, s2⟩ := rd_facts HR6.out
      have HB6 := hid (below_alloc w5 (.cells #[.slice q' D'.L.length d', .int .i64 D'.rooms, .int .i64 D'.left] 26))
      have HO' : Hid (∀ k, O' k → w.heap.size < k ∧ k ≠ w2.heap.size) := fun k hk => by
        rcases hQ3 k hk with g' | g'
        · exact HDO.out.2.1 k g'
        · exact ⟨by omega, by omega⟩
      have HI6 := hid (hQ2.below HB6.out)
      have HD6 := hid (HM.out.below hQ1 HB6.out)
      have HK6 : Hid (Below w.heap.size w (w5.alloc (.cells #[.slice q' D'.L.length d', .int .i64 D'.rooms, .int .i64 D'.left] 26))) := by
        have k1 := HW.out.trans (HB1.out.mono HW.out.size)
        have k2 : Below w.heap.size w w5 := Below.tail k1 hQ4 (fun j hj h => by have := (HDO.out.2.1 _ h).1; omega) k1.size
        exact k2.trans (HB6.out.mono k2.size)
      clear hh hQ1 hQ2 hQ3 hQ4 hr5 h05 y0 y1 y2 x0 x1 x2 e1
      go_wp2_with fail
      refine ⟨⟨i + 1, q', d', by go_num, by omega, ?_, ?_, ⟨O', ?_, HO'.out, ?_⟩, ?_⟩, by simp [intOf]; omega⟩
      · rw [HD'.out]; exact set3_same _ w2.heap.size _ _ _ _ _ _ HR6.out
      · exact (set3_other _ w2.heap.size _ _ _ w.heap.size (by omega)).trans H06.out
      · rw [HD'.out]; exact HM.out.turn HD6.out (fun k hk => set3_other _ w2.heap.size _ _ _ k (by rcases hk with hk | hk; omega; exact (HO'.out k hk).2)) (by simp)
      · rw [HD'.out]; exact HI6.out.set3 w2.heap.size (fun j hj => hj.2.1) _ _ _
      · exact ((HK6.out.setCell (p := ⟨w2.heap.size, 0, none⟩) (by show w.heap.size ≤ w2.heap.size; omega) _).setCell (p := ⟨w2.heap.size, 1, none⟩) (by show w.heap.size ≤ w2.heap.size; omega) _).setCell (p := ⟨w2.heap.size, 2, none⟩) (by show w.heap.size ≤ w2.heap.size; omega) _
    · have et : ops.take i = ops := List.take_of_length_le (by omega)
      rw [et] at HRr HDO
      clear et
      obtain ⟨⟨y0, y1, y2⟩, -⟩ := rd_facts HRr.out
      obtain ⟨⟨m0, m1, m2⟩, s0, s1, s2⟩ := rd_facts HR0.out
      have hn2 : w.heap.size < w2.heap.size := by omega
      go_wp2_with fail
      go_region
      all_goals go_wp2_with fail
      all_goals refine bodyPost_ret (v := .tuple #[ptr b, rdV (.slice q (runD newD ops).L.length d) (runD newD ops).rooms (runD newD ops).left, .bool true]) ?_ rfl ?_
      · exact ret_beg rfl rfl rfl rfl (set3_same _ w.heap.size _ _ _ _ _ _ HR0.out)
      · refine ⟨b, q, d, rfl, O, ?_, fun k hk => by have := (HDO.out.2.1 k hk).1; omega, ?_, ?_⟩
        · exact HM.out.turn HDO.out.1 (fun k hk => set3_other wr w.heap.size _ _ _ k (by rcases hk with hk | hk; omega; have := (HDO.out.2.1 k hk).1; omega)) (by simp)
        · exact ((HDO.out.2.2.set3 w.heap.size (fun j hj => hj.2.2) _ _ _).keep (Q := Off O) (Keep.of_below (Below.refl _ _).drew) (fun _ h => h.1))
        · exact (((HW.out.setCell (p := ⟨w.heap.size, 0, none⟩) (Nat.le_refl _) _).setCell (p := ⟨w.heap.size, 1, none⟩) (Nat.le_refl _) _).setCell (p := ⟨w.heap.size, 2, none⟩) (Nat.le_refl _) _).drew

end Go.Proofs.YtphegggekcjenaaDoor
